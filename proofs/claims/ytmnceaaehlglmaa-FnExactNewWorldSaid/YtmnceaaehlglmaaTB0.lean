/-
  Tables of handles, plainly: which are good, told in two ways that are one; what is done to them.
-/
import Derived.Test.YtmnceaaehlglmaaRows
import Derived.WalkKit
import Derived.ProofKit
import Derived.OpenShut
import Derived.ChangeOld
import Derived.Below
namespace Go.Proofs.Ytmnceaaehlglmaa
open Go.ChangeShapes Go.WideShapes Go.ChangeAt Go.RowKit

/-- A handle. -/
structure Hd where
  u : Bool
  r : Int
  p : Int
  o : Bool
  l : Int
  s : Int
def zH : Hd := ⟨false, 0, 0, false, 0, 0⟩
def inB (x lo hi : Int) : Bool := decide (lo ≤ x) && decide (x ≤ hi)
def isZ (h : Hd) : Bool := h.u == false && (h.r == 0 && (h.p == 0 && (h.o == false && (h.l == 0 && h.s == 0))))
def okH (h : Hd) : Bool := h.u && inB h.r 0 9 && inB h.p 0 1000000 && inB h.l 0 1000 && inB h.s 0 1000 && (h.o == (h.s == 0))
theorem isZ_eq {h : Hd} (e : isZ h = true) : h = zH := by
  obtain ⟨u, r, p, o, l, s⟩ := h
  simp [isZ] at e
  obtain ⟨rfl, rfl, rfl, rfl, rfl, rfl⟩ := e
  rfl
theorem isZ_u {h : Hd} (e : isZ h = true) : h.u = false := by rw [isZ_eq e]; rfl
theorem okH_u {h : Hd} (e : okH h = true) : h.u = true := by
  unfold okH at e
  simp [Bool.and_eq_true] at e
  exact e.1.1.1.1.1
theorem okH_parts {h : Hd} (e : okH h = true) : (0 ≤ h.r ∧ h.r ≤ 9) ∧ (0 ≤ h.p ∧ h.p ≤ 1000000) ∧ (0 ≤ h.l ∧ h.l ≤ 1000) ∧ (0 ≤ h.s ∧ h.s ≤ 1000) := by
  unfold okH inB at e
  simp [Bool.and_eq_true] at e
  exact ⟨e.1.1.1.1.2, e.1.1.1.2, e.1.1.2, e.1.2⟩

/-- A table that is good: the free numbers are just those of the handles that are not used. -/
def GoodT (S : List Hd) (F : List Int) : Prop :=
  S.length ≤ 40 ∧ F.Nodup ∧ (∀ x ∈ F, 0 ≤ x ∧ x < (S.length : Int)) ∧ ∀ k (h : k < S.length), ((k : Int) ∈ F → isZ S[k] = true) ∧ ((k : Int) ∉ F → okH S[k] = true)

theorem nodup_le : ∀ {A B : List Int}, A.Nodup → (∀ x ∈ A, x ∈ B) → A.length ≤ B.length
  | [], _, _, _ => by simp
  | a :: A, B, hn, hs => by
    obtain ⟨h1, h2⟩ := List.nodup_cons.1 hn
    have ha : a ∈ B := hs a (by simp)
    have h := nodup_le (A := A) (B := B.erase a) h2 (fun x hx => by
      have hne : x ≠ a := fun e => h1 (e ▸ hx)
      exact (List.mem_erase_of_ne hne).2 (hs x (by simp [hx])))
    rw [List.length_erase_of_mem ha] at h
    have : 0 < B.length := List.length_pos_of_mem ha
    simp
    omega

/-- The numbers of those that are not used. -/
def unused (S : List Hd) : List Int := ((List.range S.length).filter fun k => match S[k]? with | some h => !h.u | none => false).map fun (k : Nat) => (k : Int)
theorem unused_nodup (S : List Hd) : (unused S).Nodup := by
  unfold unused
  refine List.Pairwise.map _ ?_ (List.nodup_range.filter _)
  intro a b h e
  exact h (by omega)
theorem unused_mem (S : List Hd) (x : Int) : x ∈ unused S ↔ ∃ k, ∃ h : k < S.length, x = (k : Int) ∧ S[k].u = false := by
  unfold unused
  simp only [List.mem_map, List.mem_filter, List.mem_range]
  constructor
  · rintro ⟨k, ⟨hk, he⟩, rfl⟩
    rw [List.getElem?_eq_getElem hk] at he
    exact ⟨k, hk, rfl, by simpa using he⟩
  · rintro ⟨k, hk, rfl, he⟩
    exact ⟨k, ⟨hk, by rw [List.getElem?_eq_getElem hk]; simpa using he⟩, rfl⟩

/-- How many of the first k are not used. -/
def frees (S : List Hd) : Nat → Nat
  | 0 => 0
  | k + 1 => frees S k + (match S[k]? with | some h => (if h.u then 0 else 1) | none => 0)
theorem frees_le (S : List Hd) : ∀ k, frees S k ≤ k
  | 0 => Nat.le_refl _
  | k + 1 => by
    have := frees_le S k
    simp only [frees]
    split
    · split <;> omega
    · omega
theorem frees_len (S : List Hd) : frees S S.length = (unused S).length := by
  unfold unused
  rw [List.length_map]
  generalize S.length = n
  induction n with
  | zero => rfl
  | succ n ih =>
    rw [List.range_succ, List.filter_append, List.length_append, ← ih]
    simp only [frees, List.filter_cons, List.filter_nil]
    cases h : S[n]? with
    | none => simp
    | some x => cases hx : x.u <;> simp [hx]

/-- A table that is good, as the law tells it. -/
def GoodS (S : List Hd) (F : List Int) : Prop :=
  (∀ k (h : k < S.length), (S[k].u = true → okH S[k] = true) ∧ (S[k].u = false → isZ S[k] = true)) ∧ F.Nodup ∧ (∀ x ∈ F, 0 ≤ x ∧ x < (S.length : Int)) ∧ (∀ k (h : k < S.length), (k : Int) ∈ F → S[k].u = false) ∧ S.length ≤ 40 ∧ F.length = frees S S.length
theorem good_one (S : List Hd) (F : List Int) : GoodS S F ↔ GoodT S F := by
  constructor
  · rintro ⟨h1, h2, h3, h4, h5, h6⟩
    refine ⟨h5, h2, h3, fun k hk => ⟨fun hm => (h1 k hk).2 (h4 k hk hm), fun hm => ?_⟩⟩
    refine (h1 k hk).1 ?_
    rcases hu : S[k].u with _ | _
    · exfalso
      have h := nodup_le (A := (k : Int) :: F) (B := unused S) (List.nodup_cons.2 ⟨hm, h2⟩) (fun x hx => by
        rw [unused_mem]
        rcases List.mem_cons.1 hx with rfl | hx
        · exact ⟨k, hk, rfl, hu⟩
        · obtain ⟨g0, g1⟩ := h3 x hx
          have hlt : x.toNat < S.length := by omega
          have hxe : ((x.toNat : Nat) : Int) = x := by omega
          exact ⟨x.toNat, hlt, hxe.symm, h4 _ hlt (by rw [hxe]; exact hx)⟩)
      rw [frees_len] at h6
      simp at h
      omega
    · rfl
  · rintro ⟨h1, h2, h3, h4⟩
    have hz : ∀ k (h : k < S.length), (k : Int) ∈ F → S[k].u = false := fun k hk hm => isZ_u ((h4 k hk).1 hm)
    have ho : ∀ k (h : k < S.length), (k : Int) ∉ F → S[k].u = true := fun k hk hm => okH_u ((h4 k hk).2 hm)
    refine ⟨fun k hk => ⟨fun hu => ?_, fun hu => ?_⟩, h2, h3, hz, h1, ?_⟩
    · refine (h4 k hk).2 (fun hm => ?_)
      rw [hz k hk hm] at hu
      cases hu
    · by_cases hm : (k : Int) ∈ F
      · exact (h4 k hk).1 hm
      · rw [ho k hk hm] at hu
        cases hu
    · rw [frees_len]
      refine Nat.le_antisymm (nodup_le h2 (fun x hx => ?_)) (nodup_le (unused_nodup S) (fun x hx => ?_))
      · rw [unused_mem]
        obtain ⟨g0, g1⟩ := h3 x hx
        have hlt : x.toNat < S.length := by omega
        have hxe : ((x.toNat : Nat) : Int) = x := by omega
        exact ⟨x.toNat, hlt, hxe.symm, hz _ hlt (by rw [hxe]; exact hx)⟩
      · obtain ⟨k, hk, rfl, hu⟩ := (unused_mem S x).1 hx
        rcases Decidable.em ((k : Int) ∈ F) with hm | hm
        · exact hm
        · rw [ho k hk hm] at hu
          cases hu
theorem GoodT.flen {S : List Hd} {F : List Int} (h : GoodT S F) : F.length ≤ 40 := by
  have := ((good_one S F).2 h).2.2.2.2.2
  have h2 := frees_le S S.length
  have := h.1
  omega
theorem GoodT.used {S : List Hd} {F : List Int} (h : GoodT S F) (k : Nat) (hk : k < S.length) : S[k].u = true ↔ (k : Int) ∉ F := by
  refine ⟨fun hu hm => ?_, fun hm => okH_u ((h.2.2.2 k hk).2 hm)⟩
  rw [isZ_u ((h.2.2.2 k hk).1 hm)] at hu
  cases hu

end Go.Proofs.Ytmnceaaehlglmaa
