/-
  The walk of the law on reading sections.
-/
import Derived.Test.YtnimlkobcginjaaMark
namespace Go.Proofs.Ytnimlkobcginjaa
open Go.ChangeShapes Go.WideShapes Go.ChangeAt Go.RowKit Go.PlainAid

/-- What is read of bytes, or none. -/
def rr (s : ByteArray) : Option (List (Int × ByteArray)) := if s.size ≤ 4000 then rs (rd 4001 s) else none
theorem rr_len (s : ByteArray) : ((rr s).getD []).length ≤ 20 := by
  unfold rr
  by_cases h : s.size ≤ 4000
  · rw [if_pos h]
    rcases rd 4001 s with _ | L
    · simp [rs]
    · by_cases hg : secGood L = true
      · have : L.length ≤ 20 := by
          simp only [secGood, Bool.and_eq_true, decide_eq_true_eq] at hg; exact hg.1
        simpa [rs, hg] using this
      · simp [rs, hg]
  · rw [if_neg h]; simp

set_option maxRecDepth 100000 in
set_option maxHeartbeats 800000 in
theorem implRead_long (s : ByteArray) (hs : 4000 < s.size) (w : World) :
    Calls Try.prog 22 #[.string s] w fun e w' => e = .returned (.tuple #[.slice none 0 0, .bool false]) ∧ w' = w := by
  have h : (4000 : Int) < s.size := by omega
  go_enter Try.func22, Try.ntmps22
  go_wp2
  go_ret2
  exact ⟨rfl, rfl⟩

theorem implRead_all (s : ByteArray) (w : World) :
    Calls Try.prog 22 #[.string s] w fun e w' => ∃ v, e = .returned (.tuple #[v, .bool (rr s).isSome]) ∧ w'.ownsRow w.heap.size 44 2 v ((rr s).getD []).length (sv ((rr s).getD [])) ∧ Below w.heap.size w w' := by
  by_cases h : s.size ≤ 4000
  · have e : rr s = rs (rdI 4001 s) := by rw [rs_same]; exact if_pos h
    rw [e]; exact implRead s h w
  · have e : rr s = none := if_neg h
    rw [e]
    refine (implRead_long s (by omega) w).mono ?_
    rintro e w' ⟨rfl, rfl⟩
    exact ⟨_, rfl, World.ownsRow_nil _ _ _ _, Below.refl _ _⟩

/-- An owned row of sections, as the marks want it. -/
theorem owned_block {w : World} {B : Nat} {e : TypeId} {a : Option Addr} {n cap : Nat} {xs : List Value} (h : w.ownsRow B e 2 (.slice a n cap) n xs) : ∃ g arr, (0 < n → a = some ⟨g, 0, none⟩ ∧ w.heap[g]? = some (.cells arr e (0, 0)) ∧ n * 2 ≤ arr.size) ∧ (0 < n → B ≤ g) := by
  rcases h.2 with ⟨hv, h0⟩ | ⟨g, c, cur, hv, hg, hh, hnc, _, hcs, _⟩
  · exact ⟨0, #[], fun hn => absurd h0 (by omega), fun hn => absurd h0 (by omega)⟩
  · simp only [Value.slice.injEq] at hv
    exact ⟨g, cur, fun _ => ⟨hv.1, hh, by rw [hcs]; exact Nat.mul_le_mul_right 2 hnc⟩, fun _ => hg⟩
theorem secAt_keep {w w' : World} {B b off : Nat} {L : List (Int × ByteArray)} (h : Below B w w') (hb : L ≠ [] → b < B) (hL : secAt w b off L) : secAt w' b off L := by
  by_cases e : L = []
  · subst e; intro i hi; simp at hi
  · exact fun i hi => ⟨(h.cell (p := ⟨b, off + i * 2, none⟩) (hb e)).trans (hL i hi).1, (h.cell (p := ⟨b, off + i * 2 + 1, none⟩) (hb e)).trans (hL i hi).2⟩

end Go.Proofs.Ytnimlkobcginjaa
