/-
  A good part: the program's side, and the law.
-/
import Derived.Test.YthboenlfcolinaaDoorPT2
import Derived.Test.YthboenlfcolinaaDoorYSh
namespace Go.Proofs.YthboenlfcolinaaDoor
open Go.ChangeShapes Go.WideShapes Go.ChangeAt Go.RowKit Go.Deep

/-- What the library hands back of a name: nothing where all its bytes are such. -/
def nmLeft (s : ByteArray) : ByteArray := ⟨(Lib.trimLeftS s.data.toList nmSet.data.toList).toArray⟩
theorem implTrim (s : ByteArray) (w : World) :
    Calls Tryd.prog 29 #[.string s, .string nmSet] w fun e w' => e = .returned (.string (nmLeft s)) ∧ Below w.heap.size w w' :=
  Any.strings_TrimLeft_laid Tryd.lays161 (by kernel_rfl) s nmSet w (by decide) (ascii_of_all (by decide))
theorem size_none (s : ByteArray) : s.size = 0 ↔ s = ⟨#[]⟩ := by
  constructor
  · intro h
    obtain ⟨d⟩ := s
    have h1 : d.size = 0 := h
    rw [Array.size_eq_zero_iff.1 h1]
  · rintro rfl; rfl

theorem str_neP (r : ByteArray) (h : 0 < r.size) : r.toList.isEmpty = false := by
  rw [ByteArray.toList_eq]
  cases hl : r.data.toList with
  | nil => exfalso; have h2 : r.data.toList.length = r.size := by simp
           rw [hl] at h2; simp at h2; omega
  | cons _ _ => rfl

set_option maxRecDepth 100000 in
set_option maxHeartbeats 1600000 in
theorem implName (s : ByteArray) (hs : s.size ≤ 1048576) (w : World) :
    Calls Tryd.prog 20 #[.string s] w fun e w' => e = .returned (.bool (nmOk s)) ∧ Below w.heap.size w w' := by
  have T := implTrim s
  unfold nmSet at T
  obtain ⟨n, hn⟩ : ∃ n : Int, (s.size : Int) = n := ⟨_, rfl⟩
  by_cases h0 : s = ⟨#[]⟩
  · subst h0
    rw [show nmOk ⟨#[]⟩ = false by decide]
    go_enter Tryd.func20, Tryd.ntmps20
    go_wp2
    go_ret
    exact ⟨rfl, Below.refl _ _⟩
  · have hem : s.toList.isEmpty = false := str_neP s (by have h1 : ¬ s.size = 0 := fun h => h0 ((size_none s).1 h); omega)
    have hz : ¬ s.size = 0 := fun h => h0 ((size_none s).1 h)
    by_cases h20 : n ≤ 20
    · obtain ⟨x, hx⟩ : ∃ x, nmLeft s = x := ⟨_, rfl⟩
      have hr : nmOk s = x.toList.isEmpty := by
        unfold nmOk
        rw [decide_eq_true (show 1 ≤ s.size by omega), decide_eq_true (show s.size ≤ 20 by omega), Bool.and_self, Bool.true_and]
        have h := nm_left s
        unfold nmLeft at hx
        rw [hx] at h
        cases e : nmAll s with
        | true => rw [h.2 e, ByteArray.toList_eq]; rfl
        | false =>
          have hx' : ¬ x = ⟨#[]⟩ := fun hx' => by rw [h.1 hx'] at e; cases e
          have hp : 0 < x.size := by
            have h1 : ¬ x.size = 0 := fun h => hx' ((size_none x).1 h)
            omega
          exact (str_neP x hp).symm
      rw [hx] at T
      rw [hr]
      have HN : Hid ((s.size : Int) = n) := hn
      clear hr hx hz h0
      go_enter Tryd.func20, Tryd.ntmps20
      go_wp2_with (go_at_call 29; refine (T _).mono ?_; rintro e w1 ⟨rfl, B1⟩; clear T)
      go_ret
      exact ⟨rfl, B1⟩
    · have hr : nmOk s = false := by
        unfold nmOk
        rw [decide_eq_false (show ¬ s.size ≤ 20 by omega), Bool.and_false, Bool.false_and]
      rw [hr]
      clear hr T hz h0
      go_enter Tryd.func20, Tryd.ntmps20
      go_wp2
      go_ret
      exact ⟨rfl, Below.refl _ _⟩

end Go.Proofs.YthboenlfcolinaaDoor
