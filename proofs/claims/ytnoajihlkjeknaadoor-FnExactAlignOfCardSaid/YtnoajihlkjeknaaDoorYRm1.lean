/-
  Rooms of types: a plain model, and the small functions on both sides.
-/
import Derived.Test.YtnoajihlkjeknaaDoorYFl1
namespace Go.Proofs.YtnoajihlkjeknaaDoor
open Go.ChangeShapes Go.WideShapes Go.ChangeAt Go.RowKit

/-- The next multiple of a from n on. -/
def up (n a : Nat) : Nat := (n + a - 1) / a * a
theorem up_le (n a : Nat) : up n a ≤ n + a - 1 := Nat.div_mul_le_self _ _

def leafR (x n : Int) : Nat × Nat :=
  if x = 16 then (if n ≤ 8 then (1, 1) else if n ≤ 16 then (2, 2) else (4, 4))
  else if x = 19 then (if n ≤ 256 then (1, 1) else (2, 2))
  else if x = 1 ∨ x = 2 ∨ x = 3 then (1, 1)
  else if x = 4 ∨ x = 5 then (2, 2)
  else if x = 8 ∨ x = 9 then (8, 8)
  else if x = 12 ∨ x = 13 then (8, 4)
  else (4, 4)
def recS (s r : Nat × Nat) : Nat × Nat := (up s.1 r.2 + r.1, max s.2 r.2)
def recE (s : Nat × Nat) : Nat × Nat := (up s.1 s.2, s.2)
def varS (s r : Nat × Nat) : Nat × Nat := (max s.1 r.1, max s.2 r.2)
def varE (s : Nat × Nat) : Nat × Nat := (up (up 1 s.2 + s.1) s.2, s.2)

/-- Size and align of node k. -/
def rm (L : List Nd) : Nat → Nat → Nat × Nat
  | 0, _ => (0, 1)
  | f + 1, k =>
    if kdAt L k = 14 then recE ((kidsOf L k).foldl (fun s c => recS s (rm L f c)) (0, 1))
    else if kdAt L k = 15 ∨ kdAt L k = 17 ∨ kdAt L k = 18 then varE ((kidsOf L k).foldl (fun s c => varS s (rm L f c)) (0, 1))
    else leafR (kdAt L k) (nAt L k)

theorem leafR_le (x n : Int) : (leafR x n).1 ≤ 8 ∧ 1 ≤ (leafR x n).2 ∧ (leafR x n).2 ≤ 8 := by
  unfold leafR
  repeat' split
  all_goals simp

theorem recF_le {α : Type} (g : α → Nat × Nat) : ∀ (K : List α) (s : Nat × Nat), 1 ≤ s.2 → s.2 ≤ 8 → (∀ c ∈ K, 1 ≤ (g c).2 ∧ (g c).2 ≤ 8) →
    (K.foldl (fun s c => recS s (g c)) s).1 ≤ s.1 + (K.map fun c => (g c).1 + 8).sum ∧ 1 ≤ (K.foldl (fun s c => recS s (g c)) s).2 ∧ (K.foldl (fun s c => recS s (g c)) s).2 ≤ 8
  | [], s, h1, h2, _ => by simp; omega
  | c :: r, s, h1, h2, h => by
    obtain ⟨h3, h4⟩ := h c (by simp)
    have hu := up_le s.1 (g c).2
    have ih := recF_le g r (recS s (g c)) (by simp only [recS]; omega) (by simp only [recS]; omega) (fun c' hc => h c' (List.mem_cons_of_mem _ hc))
    have e : (recS s (g c)).1 = up s.1 (g c).2 + (g c).1 := rfl
    rw [e] at ih
    simp only [List.foldl_cons, List.map_cons, List.sum_cons]
    omega
theorem varF_le {α : Type} (g : α → Nat × Nat) (b : Nat) : ∀ (K : List α) (s : Nat × Nat), s.1 ≤ b → 1 ≤ s.2 → s.2 ≤ 8 → (∀ c ∈ K, (g c).1 ≤ b ∧ 1 ≤ (g c).2 ∧ (g c).2 ≤ 8) →
    (K.foldl (fun s c => varS s (g c)) s).1 ≤ b ∧ 1 ≤ (K.foldl (fun s c => varS s (g c)) s).2 ∧ (K.foldl (fun s c => varS s (g c)) s).2 ≤ 8
  | [], s, h0, h1, h2, _ => ⟨h0, h1, h2⟩
  | c :: r, s, h0, h1, h2, h => by
    obtain ⟨h5, h3, h4⟩ := h c (by simp)
    exact varF_le g b r (varS s (g c)) (by simp only [varS]; omega) (by simp only [varS]; omega) (by simp only [varS]; omega) (fun c' hc => h c' (List.mem_cons_of_mem _ hc))
theorem sum_take_le {α : Type} (h : α → Nat) (K : List α) (m : Nat) : ((K.take m).map h).sum ≤ (K.map h).sum := by
  conv => rhs; rw [← List.take_append_drop m K]
  rw [List.map_append, List.sum_append]
  omega
theorem sum_mem_le {α : Type} (h : α → Nat) : ∀ (K : List α) (c : α), c ∈ K → h c ≤ (K.map h).sum
  | [], _, hc => by simp at hc
  | a :: r, c, hc => by
    rw [List.map_cons, List.sum_cons]
    rcases List.mem_cons.1 hc with rfl | hc
    · omega
    · have := sum_mem_le h r c hc; omega
theorem fold_succ {α β : Type} (st : β → α → β) (s : β) {K : List α} {m : Nat} (h : m < K.length) : (K.take (m + 1)).foldl st s = st ((K.take m).foldl st s) K[m] := by
  rw [List.take_succ_eq_append_getElem h, List.foldl_append]; rfl

theorem sumSeg (C : Nat) (g : Nat → Nat) : ∀ (ks : List Nat) (q : Nat), (∀ i (h : i < ks.length), ks[i] < endAt ks q i ∧ g ks[i] ≤ C * (endAt ks q i - ks[i])) → ∀ c r, ks = c :: r → (ks.map g).sum ≤ C * (q - c) ∧ c < q
  | [], _, _, c, r, h => by simp at h
  | [d], q, hh, c, r, h => by
    simp at h
    have := hh 0 (by simp)
    have e : endAt [d] q 0 = q := rfl
    rw [e] at this
    simp at this ⊢
    rw [← h.1]
    omega
  | d :: d' :: r', q, hh, c, r, h => by
    simp at h
    obtain ⟨rfl, _⟩ := h
    have h0 := hh 0 (by simp)
    have e : endAt (d :: d' :: r') q 0 = d' := rfl
    rw [e] at h0
    have ih := sumSeg C g (d' :: r') q (fun i hi => hh (i + 1) (by simpa using hi)) d' r' rfl
    have e2 : ((d :: d' :: r').map g).sum = g d + ((d' :: r').map g).sum := by simp
    rw [e2]
    simp at h0
    have e3 : C * (q - d) = C * (d' - d) + C * (q - d') := by rw [← Nat.mul_add]; congr 1; omega
    rw [e3]
    omega

theorem rm_le {L : List Nd} (hU : ups L) : ∀ (f p e : Nat), isEnd L p e → (rm L f p).1 + 8 ≤ 16 * (e - p) ∧ 1 ≤ (rm L f p).2 ∧ (rm L f p).2 ≤ 8
  | 0, p, e, he => by have := he.1; simp [rm]; omega
  | f + 1, p, e, he => by
    have hpe := he.1
    have hk : ∀ i (h : i < (kidsOf L p).length), (kidsOf L p)[i] < endAt (kidsOf L p) e i ∧ (rm L f (kidsOf L p)[i]).1 + 8 ≤ 16 * (endAt (kidsOf L p) e i - (kidsOf L p)[i]) := fun i h => by
      have h1 := parts_end hU he i h
      exact ⟨h1.1, (rm_le hU f _ _ h1).1⟩
    have hk2 : ∀ c ∈ kidsOf L p, 1 ≤ (rm L f c).2 ∧ (rm L f c).2 ≤ 8 := fun c hc => by
      obtain ⟨i, hi, rfl⟩ := List.getElem_of_mem hc
      exact (rm_le hU f _ _ (parts_end hU he i hi)).2
    have hsum : ((kidsOf L p).map fun c => (rm L f c).1 + 8).sum ≤ 16 * (e - p - 1) := by
      cases hK : kidsOf L p with
      | nil => simp
      | cons c r =>
        have := (sumSeg 16 (fun c => (rm L f c).1 + 8) (kidsOf L p) e hk c r hK).1
        have hc := (kids_mem (show c ∈ kidsOf L p by rw [hK]; simp)).1
        rw [hK] at this
        omega
    unfold rm
    split
    · have := recF_le (rm L f) (kidsOf L p) (0, 1) (by simp) (by simp) hk2
      simp only [recE]
      have hu := up_le ((kidsOf L p).foldl (fun s c => recS s (rm L f c)) (0, 1)).1 ((kidsOf L p).foldl (fun s c => recS s (rm L f c)) (0, 1)).2
      simp only at this
      omega
    split
    · have := varF_le (rm L f) (16 * (e - p - 1) - 8) (kidsOf L p) (0, 1) (by simp) (by simp) (by simp) (fun c hc => by
        refine ⟨?_, hk2 c hc⟩
        have h1 : (rm L f c).1 + 8 ≤ ((kidsOf L p).map fun c => (rm L f c).1 + 8).sum := sum_mem_le (fun c => (rm L f c).1 + 8) (kidsOf L p) c hc
        omega)
      cases hK : kidsOf L p with
      | nil =>
        have e : varE (List.foldl (fun s c => varS s (rm L f c)) (0, 1) []) = (1, 1) := by simp [varE, up]
        rw [e]
        simp only
        omega
      | cons c r =>
      have hc1 := (kids_mem (show c ∈ kidsOf L p by rw [hK]; simp)).1
      have hc2 := kids_in hU he c (by rw [hK]; simp)
      rw [← hK]
      simp only [varE]
      obtain ⟨S, hS⟩ : ∃ S, (kidsOf L p).foldl (fun s c => varS s (rm L f c)) (0, 1) = S := ⟨_, rfl⟩
      rw [hS] at this ⊢
      have hu := up_le 1 S.2
      have hu2 := up_le (up 1 S.2 + S.1) S.2
      omega
    · have := leafR_le (kdAt L p) (nAt L p)
      omega

/-- No kid of a node has a bigger room than 640, and no row of them. -/
theorem rm_kids {L : List Nd} (hU : ups L) (f : Nat) {p e : Nat} (he : isEnd L p e) : (∀ c ∈ kidsOf L p, (rm L f c).1 ≤ 640 ∧ 1 ≤ (rm L f c).2 ∧ (rm L f c).2 ≤ 8) ∧ ((kidsOf L p).map fun c => (rm L f c).1 + 8).sum ≤ 640 := by
  have hpe := he.1
  have h40 := hU.2.1
  have hel := he.2.1
  refine ⟨fun c hc => ?_, ?_⟩
  · obtain ⟨i, hi, rfl⟩ := List.getElem_of_mem hc
    have hh := parts_end hU he i hi
    have h1 := rm_le hU f _ _ hh
    have h2 := hh.2.1
    omega
  · have hk : ∀ i (h : i < (kidsOf L p).length), (kidsOf L p)[i] < endAt (kidsOf L p) e i ∧ (rm L f (kidsOf L p)[i]).1 + 8 ≤ 16 * (endAt (kidsOf L p) e i - (kidsOf L p)[i]) := fun i h => by
      have h1 := parts_end hU he i h
      exact ⟨h1.1, (rm_le hU f _ _ h1).1⟩
    cases hK : kidsOf L p with
    | nil => simp
    | cons c r =>
      have := (sumSeg 16 (fun c => (rm L f c).1 + 8) (kidsOf L p) e hk c r hK).1
      rw [hK] at this
      omega

end Go.Proofs.YtnoajihlkjeknaaDoor
