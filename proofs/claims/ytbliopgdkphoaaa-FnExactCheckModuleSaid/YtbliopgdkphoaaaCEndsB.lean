/-
  The ends of a body: what is told, and what is no body.
-/
import Derived.Test.YtbliopgdkphoaaaCEnds
import Derived.Test.YtbliopgdkphoaaaCStack
import Derived.Test.YtbliopgdkphoaaaCAll
import Derived.Test.YtbliopgdkphoaaaCKeep
namespace Go.Proofs.Ytbliopgdkphoaaa
open Go.ChangeShapes Go.WideShapes Go.ChangeAt Go.RowKit

def ops (L : List (Int × Int)) : List Int := L.map (·.1)
/-- Whether code is a body, its ends and how deep it goes. -/
def eo (L : List (Int × Int)) : Option (List Nat × Nat) := if (allG L && decide (L.length ≤ 200)) = true then bodyOf (ops L) else none
/-- Frames as the rows hold them. -/
def fE (S : List (Bool × List Nat)) : List Bool := (S.map (·.1)).reverse
def fX (S : List (Bool × List Nat)) : List (List Nat) := (S.map (·.2)).reverse
theorem fE_cons (f : Bool) (x : List Nat) (T : List (Bool × List Nat)) : fE ((f, x) :: T) = fE T ++ [f] := by simp [fE]
theorem fX_cons (f : Bool) (x : List Nat) (T : List (Bool × List Nat)) : fX ((f, x) :: T) = fX T ++ [x] := by simp [fX]
theorem fE_len (S : List (Bool × List Nat)) : (fE S).length = S.length := by simp [fE]
theorem fX_len (S : List (Bool × List Nat)) : (fX S).length = S.length := by simp [fX]
/-- Few frames, short ones, of places that were met. -/
def met (S : List (Bool × List Nat)) (k : Nat) : Prop := S.length ≤ k + 1 ∧ ∀ x ∈ S, x.2.length ≤ k ∧ ∀ j ∈ x.2, j < k
theorem met_up {S : List (Bool × List Nat)} {k : Nat} (h : met S k) : met S (k + 1) := ⟨by have := h.1; omega, fun x hx => ⟨by have := (h.2 x hx).1; omega, fun j hj => by have := (h.2 x hx).2 j hj; omega⟩⟩
theorem met_more {f g : Bool} {x : List Nat} {T : List (Bool × List Nat)} {k : Nat} (h : met ((f, x) :: T) k) : met ((g, x ++ [k]) :: T) (k + 1) := by
  refine ⟨by have := h.1; simp only [List.length_cons] at this ⊢; omega, fun y hy => ?_⟩
  rcases List.mem_cons.1 hy with rfl | hy
  · have h1 := h.2 (f, x) (List.mem_cons_self ..)
    refine ⟨by simp; exact h1.1, fun j hj => ?_⟩
    rcases List.mem_append.1 hj with hj | hj
    · have := h1.2 j hj; omega
    · simp at hj; omega
  · have h1 := h.2 y (List.mem_cons_of_mem _ hy)
    exact ⟨by have := h1.1; omega, fun j hj => by have := h1.2 j hj; omega⟩
theorem met_pop {x : Bool × List Nat} {T : List (Bool × List Nat)} {k : Nat} (h : met (x :: T) k) : met T (k + 1) := by
  have h1 := met_up h
  exact ⟨by have := h.1; simp only [List.length_cons] at this; omega, fun y hy => h1.2 y (List.mem_cons_of_mem _ hy)⟩
theorem met_push {b : Bool} {S : List (Bool × List Nat)} {k : Nat} (h : met S k) : met ((b, [k]) :: S) (k + 1) := by
  refine ⟨by have := h.1; simp only [List.length_cons]; omega, fun y hy => ?_⟩
  rcases List.mem_cons.1 hy with rfl | hy
  · exact ⟨by simp, fun j hj => by simp at hj; omega⟩
  · exact (met_up h).2 y hy
theorem fw_op (L : List (Int × Int)) (k : Nat) (h : k < L.length) : (ops L).drop k = L[k].1 :: (ops L).drop (k + 1) := by
  have h2 : k < (ops L).length := by simpa [ops] using h
  rw [List.drop_eq_getElem_cons h2]; simp [ops]

theorem Try.infoI : (Try.prog.info? 3).map (fun i => (i.zero, i.size, i.bytes)) = some (some (.int .i64 0), 1, 8) := by kernel_rfl
theorem Try.infoB : (Try.prog.info? 4).map (fun i => (i.zero, i.size, i.bytes)) = some (some (.bool false), 1, 1) := by kernel_rfl
theorem Try.infoSI : (Try.prog.info? 72).map (fun i => (i.zero, i.size, i.bytes)) = some (some (.slice none 0 0), 1, 24) := by kernel_rfl

/-- What is told of a body, and what is not. -/
def Told (w : World) (L : List (Int × Int)) (e : Ending) (w' : World) : Prop := ∃ v d, e = .returned (.tuple #[v, .int .i64 d, .bool (eo L).isSome]) ∧ (∀ E D, eo L = some (E, D) → d = ((D : Nat) : Int) ∧ w'.ownsRow w.heap.size 3 1 v E.length (nv E)) ∧ Below w.heap.size w w'
theorem told_no {w w' : World} {L : List (Int × Int)} {v : Value} {d : Int} (h : eo L = none) (hb : Below w.heap.size w w') : Told w L (.returned (.tuple #[v, .int .i64 d, .bool false])) w' :=
  ⟨v, d, by rw [h]; rfl, fun E D he => by rw [h] at he; simp at he, hb⟩

set_option maxRecDepth 100000 in
set_option maxHeartbeats 3200000 in
theorem specEnds_bad (a : Option Addr) (b off cap : Nat) (L : List (Int × Int)) (w : World) (ha : Hid (L ≠ [] → a = some ⟨b, off, none⟩ ∧ b < w.heap.size)) (hL : insAt w b off L) (hlen : L.length ≤ 1048576) (hg : (allG L && decide (L.length ≤ 200)) = false ∨ L = []) :
    Calls Try.prog 73 #[.slice a L.length cap] w fun e w' => Told w L e w' := by
  have HG := specAll a b off cap L w ha hL hlen
  have he : Hid (eo L = none) := by
    unfold Hid eo
    rcases hg with h | rfl
    · rw [h]; rfl
    · rfl
  by_cases h0 : (allG L && decide (L.length ≤ 200)) = false
  · rw [h0] at HG
    clear hg h0 hlen
    go_enter Try.func73, Try.ntmps73
    go_wp2_with (go_at_call 111; refine HG.mono ?_; rintro e w0 ⟨rfl, hb0⟩; clear HG)
    refine bodyPost_ret (v := .tuple #[.slice none 0 0, .int .i64 0, .bool false]) (by simp [results, Try.results73, go_sem]) rfl (told_no he.out (by assumption))
  · have h1 : (allG L && decide (L.length ≤ 200)) = true := by simpa using h0
    rw [h1] at HG
    have hL0 : L.length = 0 := by
      rcases hg with h | rfl
      · exact absurd h h0
      · rfl
    have hL1 : (L.length : Int) = 0 := by omega
    clear hg h0 h1 hlen hL0
    go_enter Try.func73, Try.ntmps73
    go_wp2_with (go_at_call 111; refine HG.mono ?_; rintro e w0 ⟨rfl, hb0⟩; clear HG)
    refine bodyPost_ret (v := .tuple #[.slice none 0 0, .int .i64 0, .bool false]) (by simp [results, Try.results73, go_sem]) rfl (told_no he.out (by assumption))

end Go.Proofs.Ytbliopgdkphoaaa
