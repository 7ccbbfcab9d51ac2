/-
  The way through a body from the back: the whole of it.
-/
import Derived.Test.YtbliopgdkphoaaaCOut3
import Derived.Test.YtbliopgdkphoaaaCEndsS
namespace Go.Proofs.Ytbliopgdkphoaaa
open Go.ChangeShapes Go.WideShapes Go.ChangeAt Go.RowKit

/-- One instruction met, whatever it is. -/
theorem meet_step (B go_ ge n k : Nat) (st : List (Nat × Bool)) (e : Nat → Nat) (d : Nat) (va : Value) (op : Int) (w : World) (h : OI w B go_ ge n st e d va) (hk : k < n) (hst : st.length ≤ 200) (hne : st ≠ [] ∨ op = 11) :
    (bkStep k op st = none ∧ Calls Try.prog 113 #[.pointer (some ⟨go_, 0, none⟩), .int .i64 (k : Int), .int .i64 op] w fun r w' => r = .returned (.bool false) ∧ Below B w w') ∨
    ∃ st', bkStep k op st = some st' ∧ Calls Try.prog 113 #[.pointer (some ⟨go_, 0, none⟩), .int .i64 (k : Int), .int .i64 op] w fun r w' => ∃ va', r = .returned (.bool true) ∧ OI w' B go_ ge n st' (fun q => if q = k then bkTop k op st else e q) (if op = 11 then max d (st.length + 1) else d) va' ∧ Below B w w' := by
  by_cases h11 : op = 11
  · right
    refine ⟨(k, false) :: st, by simp [bkStep, h11], ?_⟩
    refine (meet_end B go_ ge n k st e d va op w h hk (by rw [h11]; rfl) hst).mono ?_
    rintro r w' ⟨ga, c, hr, ho, hb⟩
    refine ⟨.slice (some ⟨ga, 0, none⟩) (st.length + 1) c, hr, ?_, hb⟩
    rw [if_pos h11]
    have e1 : (fun q => if q = k then bkTop k op st else e q) = fun q => if q = k then k else e q := by simp [bkTop, h11]
    rw [e1]; exact ho
  · cases st with
    | nil => exact absurd rfl (hne.resolve_right h11)
    | cons y t =>
      obtain ⟨x, dd⟩ := y
      obtain ⟨ga, c, rfl, hc⟩ := own_pos h.ar (by simp)
      have hO : OpenAt w B go_ ge n x dd t e d ga c t.length := ⟨by simpa using h, rfl, by simp at hst; omega, by simp at hc; omega⟩
      have hT : bkTop k op ((x, dd) :: t) = x := by simp [bkTop, h11]
      rw [hT]
      simp only [h11, if_false]
      by_cases h5 : op = 5
      · cases dd with
        | true =>
          left
          refine ⟨by simp [bkStep, h5], ?_⟩
          refine (meet_else B go_ ge n k x true t e d ga c t.length op w hO hk (by rw [h5]; rfl)).mono ?_
          rintro r w' ⟨hr, _, hb⟩
          exact ⟨hr, hb⟩
        | false =>
          right
          refine ⟨(x, true) :: t, by simp [bkStep, h5], ?_⟩
          refine (meet_else B go_ ge n k x false t e d ga c t.length op w hO hk (by rw [h5]; rfl)).mono ?_
          rintro r w' ⟨hr, ho, hb⟩
          exact ⟨_, hr, ho, hb⟩
      · by_cases ho : opens op = true
        · have hr : role op = 1 := by
            simp only [opens, Bool.or_eq_true, beq_iff_eq] at ho
            unfold role; rw [if_pos (by omega)]
          by_cases ht : t = []
          · left
            refine ⟨by simp [bkStep, h11, h5, ho, ht], ?_⟩
            exact meet_first B go_ ge n k x dd t e d ga c t.length op w hO hk hr (by unfold Hid; rw [ht]; rfl)
          · have hj : 0 < t.length := List.length_pos_iff.2 ht
            by_cases hb : dd = true ∧ op ≠ 4
            · left
              refine ⟨by simp [bkStep, h11, h5, ho, hb.1, hb.2], ?_⟩
              exact meet_bad B go_ ge n k x dd t e d ga c t.length op w hO hk hr hj hb.1 (by simpa using hb.2)
            · right
              refine ⟨t, by simp only [bkStep, h11, if_false, h5, ho, if_true]; rw [if_neg (fun h => h.elim ht hb)], ?_⟩
              refine (meet_open B go_ ge n k x dd t e d ga c t.length op w hO hk hr hj ?_).mono ?_
              · by_cases hd : dd = true
                · right; by_cases h4 : op = 4
                  · simp [h4]
                  · exact absurd ⟨hd, h4⟩ hb
                · left; simpa using hd
              · rintro r w' ⟨hr2, ho2, hb2⟩
                exact ⟨_, hr2, ho2, hb2⟩
        · right
          have ho' : opens op = false := by simpa using ho
          refine ⟨(x, dd) :: t, by simp [bkStep, h11, h5, ho'], ?_⟩
          have hr : role op = 0 := by
            simp only [opens, Bool.or_eq_false_iff, beq_eq_false_iff_ne] at ho'
            unfold role; rw [if_neg (by omega), if_neg h5, if_neg h11]
          refine (meet_other B go_ ge n k x dd t e d ga c t.length op w hO hk hr).mono ?_
          rintro r w' ⟨hr2, ho2, hb2⟩
          exact ⟨_, hr2, ho2, hb2⟩

end Go.Proofs.Ytbliopgdkphoaaa
