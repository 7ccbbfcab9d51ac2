/-
  Plain facts on reading sections out of bytes: nothing of the program stands here.
-/
import Derived.Test.YtnimlkobcginjaaSecGood
import Derived.Test.YtnimlkobcginjaaTName
namespace Go.Proofs.Ytnimlkobcginjaa
open Go.PlainAid Go.RowKit

def restOf (c : ByteArray) : ByteArray := c.extract 1 c.size
theorem rest_size (c : ByteArray) : (restOf c).size = c.size - 1 := by simp [restOf, ByteArray.size_extract]
/-- One section at the front, and what is left. -/
def rstep (c : ByteArray) : Option ((Int × ByteArray) × ByteArray) :=
  if (tu (restOf c) 32).2 = 0 ∨ (c.size : Int) - 1 - (tu (restOf c) 32).2 < (tu (restOf c) 32).1 then none
  else some ((bt c 0, c.extract (1 + (tu (restOf c) 32).2) (1 + (tu (restOf c) 32).2 + (tu (restOf c) 32).1.toNat)), c.extract (1 + (tu (restOf c) 32).2 + (tu (restOf c) 32).1.toNat) c.size)
def rd : Nat → ByteArray → Option (List (Int × ByteArray))
  | 0, _ => none
  | f + 1, c => if c.size = 0 then some [] else match rstep c with
    | none => none
    | some (x, r) => (rd f r).map (x :: ·)
def rdI : Nat → ByteArray → Option (List (Int × ByteArray))
  | 0, _ => none
  | f + 1, c => if c.size = 0 then some [] else match rstep c with
    | none => none
    | some (x, r) => if x.2.size ≤ 1000 then (rdI f r).map (x :: ·) else none
theorem rd_end (f : Nat) (c : ByteArray) (h : c.size = 0) : rd (f + 1) c = some [] := by simp [rd, h]
theorem rd_none (f : Nat) (c : ByteArray) (h : ¬ c.size = 0) (hs : rstep c = none) : rd (f + 1) c = none := by simp [rd, h, hs]
theorem rd_some (f : Nat) (c : ByteArray) (h : ¬ c.size = 0) (x : Int × ByteArray) (r : ByteArray) (hs : rstep c = some (x, r)) : rd (f + 1) c = (rd f r).map (x :: ·) := by simp [rd, h, hs]
theorem rdI_end (f : Nat) (c : ByteArray) (h : c.size = 0) : rdI (f + 1) c = some [] := by simp [rdI, h]
theorem rdI_none (f : Nat) (c : ByteArray) (h : ¬ c.size = 0) (hs : rstep c = none) : rdI (f + 1) c = none := by simp [rdI, h, hs]
theorem rdI_long (f : Nat) (c : ByteArray) (h : ¬ c.size = 0) (x : Int × ByteArray) (r : ByteArray) (hs : rstep c = some (x, r)) (hx : ¬ x.2.size ≤ 1000) : rdI (f + 1) c = none := by simp [rdI, h, hs, hx]
theorem rdI_some (f : Nat) (c : ByteArray) (h : ¬ c.size = 0) (x : Int × ByteArray) (r : ByteArray) (hs : rstep c = some (x, r)) (hx : x.2.size ≤ 1000) : rdI (f + 1) c = (rdI f r).map (x :: ·) := by simp [rdI, h, hs, hx]
theorem rdI_of (f : Nat) : ∀ c, rdI f c = (rd f c).bind fun L => if ∀ x ∈ L, x.2.size ≤ 1000 then some L else none := by
  induction f with
  | zero => intro c; rfl
  | succ f ih =>
    intro c
    by_cases h : c.size = 0
    · rw [rdI_end f c h, rd_end f c h]; simp
    · rcases hs : rstep c with _ | ⟨x, r⟩
      · rw [rdI_none f c h hs, rd_none f c h hs]; rfl
      · rw [rd_some f c h x r hs]
        by_cases hx : x.2.size ≤ 1000
        · rw [rdI_some f c h x r hs hx, ih r]
          rcases rd f r with _ | L
          · rfl
          · simp only [Option.bind_some, Option.map_some]
            by_cases hL : ∀ y ∈ L, y.2.size ≤ 1000
            · rw [if_pos hL, if_pos (by intro y hy; rcases List.mem_cons.1 hy with rfl | hy; exact hx; exact hL y hy)]; rfl
            · rw [if_neg hL, if_neg (fun h => hL fun y hy => h y (List.mem_cons_of_mem _ hy))]; rfl
        · rw [rdI_long f c h x r hs hx]
          rcases rd f r with _ | L
          · rfl
          · simp only [Option.bind_some, Option.map_some]
            rw [if_neg (fun h => hx (h x (List.mem_cons_self ..)))]
/-- What is read of bytes: the sections, or none. -/
def rs (o : Option (List (Int × ByteArray))) : Option (List (Int × ByteArray)) := o.bind fun L => if secGood L = true then some L else none
theorem good_short (L : List (Int × ByteArray)) (h : secGood L = true) : ∀ x ∈ L, x.2.size ≤ 1000 := by
  intro x hx
  obtain ⟨k, hk, rfl⟩ := List.getElem_of_mem hx
  simp only [secGood, Bool.and_eq_true, decide_eq_true_eq] at h
  have H : ∀ (M : List (Int × ByteArray)) (p : Int), secOk p M = true → ∀ k (h : k < M.length), M[k].2.size ≤ 1000 := by
    intro M
    induction M with
    | nil => intro p _ k h; simp at h
    | cons y r ih =>
      intro p hp k hk
      simp only [secOk, Bool.and_eq_true, decide_eq_true_eq] at hp
      cases k with
      | zero => exact hp.1.2.2
      | succ k => exact ih y.1 hp.2 k (by simpa using hk)
  exact H L (-1) h.2 k hk
theorem rs_same (f : Nat) (c : ByteArray) : rs (rdI f c) = rs (rd f c) := by
  rw [rdI_of]
  rcases rd f c with _ | L
  · rfl
  · simp only [rs, Option.bind_some]
    by_cases hL : ∀ x ∈ L, x.2.size ≤ 1000
    · rw [if_pos hL]; rfl
    · rw [if_neg hL]
      have : ¬ secGood L = true := fun h => hL (good_short L h)
      rw [if_neg this]; rfl
end Go.Proofs.Ytnimlkobcginjaa
