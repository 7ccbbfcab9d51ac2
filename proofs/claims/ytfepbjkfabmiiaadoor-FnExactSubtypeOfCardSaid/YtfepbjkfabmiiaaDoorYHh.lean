/-
  Whether a type has handles: both sides, and the law.
-/
import Derived.Test.YtfepbjkfabmiiaaDoorYTr
namespace Go.Proofs.YtfepbjkfabmiiaaDoor
open Go.ChangeShapes Go.WideShapes Go.ChangeAt Go.RowKit

def isH (k : Int) : Bool := k == 20 || k == 21
def hnd (L : List Nd) : Nat → Nat → Bool
  | 0, _ => false
  | f + 1, k => isH (kdAt L k) || (kidsOf L k).any (hnd L f)

theorem any_take_succ {K : List Nat} {p : Nat → Bool} {m : Nat} (h : m < K.length) : (K.take (m + 1)).any p = ((K.take m).any p || p K[m]) := by
  rw [List.take_succ_eq_append_getElem h, List.any_append]; simp

set_option maxRecDepth 100000 in
set_option maxHeartbeats 3200000 in
theorem specHandles (L : List Nd) (h40 : L.length ≤ 40) : ∀ (f k : Nat) (w : World) (lo hi : Nat) (sl : Value), TrRep L lo hi f w k sl → hi ≤ w.heap.size →
    Calls Tryd.prog 36 #[.agg #[.int .i64 (kdAt L k), .int .i64 (nAt L k), sl]] w fun e w' => e = .returned (.bool (hnd L f k)) ∧ Below w.heap.size w w' := by
  intro f
  induction f with
  | zero => intro k w lo hi sl h; exact h.elim
  | succ f ih =>
    intro k w lo hi sl htr hhi
    have IH : Hid (∀ (k : Nat) (w : World) (lo hi : Nat) (sl : Value), TrRep L lo hi f w k sl → hi ≤ w.heap.size →
      Calls Tryd.prog 36 #[.agg #[.int .i64 (kdAt L k), .int .i64 (nAt L k), sl]] w fun e w' => e = .returned (.bool (hnd L f k)) ∧ Below w.heap.size w w') := ih
    clear ih
    obtain ⟨a, cap, rfl, hk⟩ := htr
    have hKL : (kidsOf L k).length ≤ 40 := Nat.le_trans (kids_le L k) h40
    have HR : Hid (hnd L (f + 1) k = (isH (kdAt L k) || (kidsOf L k).any (hnd L f))) := rfl
    obtain ⟨K, hK⟩ : ∃ K, kidsOf L k = K := ⟨_, rfl⟩
    have HK : Hid (∀ j (h : j < K.length), ∃ g sl', a = some ⟨g, 0, none⟩ ∧ lo ≤ g ∧ g < hi ∧ w.cell? ⟨g, j * 3, none⟩ = some (.int .i64 (kdAt L K[j])) ∧ w.cell? ⟨g, j * 3 + 1, none⟩ = some (.int .i64 (nAt L K[j])) ∧ w.cell? ⟨g, j * 3 + 2, none⟩ = some sl' ∧ TrRep L lo hi f w K[j] sl') := by
      subst hK; exact hk
    rw [hK] at HR hKL ⊢
    clear hk
    obtain ⟨R, hR⟩ : ∃ R, hnd L (f + 1) k = R := ⟨_, rfl⟩
    rw [hR] at HR ⊢
    obtain ⟨x, hx⟩ : ∃ x, kdAt L k = x := ⟨_, rfl⟩
    obtain ⟨y, hy⟩ : ∃ y, nAt L k = y := ⟨_, rfl⟩
    rw [hx] at HR ⊢
    rw [hy]
    clear hx hy hR hK
    by_cases hh : x = 20 ∨ x = 21
    · obtain rfl : R = true := by rw [HR.out]; rcases hh with rfl | rfl <;> simp [isH]
      clear HR
      rcases hh with rfl | rfl
      all_goals
        go_enter Tryd.func36, Tryd.ntmps36
        go_wp2
        go_ret
        refine ⟨rfl, ?_⟩
        (repeat (first | refine Below.alloc ?_ (by first | (simp; done) | (simp; omega)) _ | refine Below.setCell ?_ (by first | (simp; done) | (simp; omega)) _ | refine bel_dN ?_ _ | refine Below.drew ?_ | exact Below.refl _ _))
    · have e20 : (x == 20) = false := by simp; exact fun h => hh (Or.inl h)
      have e21 : (x == 21) = false := by simp; exact fun h => hh (Or.inr h)
      have HR2 : Hid (R = K.any (hnd L f)) := by unfold Hid; rw [HR.out]; simp [isH, e20, e21]
      clear HR hh
      have hwa := fun o => (Below.refl w.heap.size w).alloc (Nat.le_refl _) o
      go_enter Tryd.func36, Tryd.ntmps36
      go_wp2
      go_loopw [16] (fun i wr => ∃ m : Nat, m ≤ K.length ∧ i = .int .i64 (m : Int) ∧ Hid ((K.take m).any (hnd L f) = false) ∧ Below w.heap.size w wr) (fun i _ => K.length - (intOf i).toNat)
      case atStart => exact ⟨0, by omega, rfl, by simp [Hid], hwa _⟩
      case round =>
        obtain ⟨m, hm, rfl, hA, hnx⟩ := hrel
        by_cases hlt : m < K.length
        · obtain ⟨g, sl', rfl, g1, g2, c0, c1, c2, tr⟩ := HK.out m hlt
          obtain ⟨j, hj⟩ : ∃ j, K[m] = j := ⟨_, rfl⟩
          rw [hj] at c0 c1 tr
          have HS : Hid ((K.take (m + 1)).any (hnd L f) = hnd L f j) := by unfold Hid; rw [any_take_succ hlt, hA.out, hj]; rfl
          have HT : Hid (hnd L f j = true → K.any (hnd L f) = true) := fun h => List.any_eq_true.2 ⟨j, by rw [← hj]; exact List.getElem_mem hlt, h⟩
          clear hj
          have d0 := keepCell hnx (by omega) c0
          have d1 := keepCell hnx (by omega) c1
          have d2 := keepCell hnx (by omega) c2
          clear c0 c1 c2
          have hC := fun o => IH.out j (wr.alloc o) lo hi sl' (tr.below (hnx.alloc hnx.size o) hhi) (by have := hnx.size; simp; omega)
          obtain ⟨r, hr⟩ : ∃ r, hnd L f j = r := ⟨_, rfl⟩
          rw [hr] at hC HS HT
          clear hr
          obtain ⟨kx, hkx⟩ : ∃ x, kdAt L j = x := ⟨_, rfl⟩
          obtain ⟨ky, hky⟩ : ∃ y, nAt L j = y := ⟨_, rfl⟩
          rw [hkx] at d0 hC
          rw [hky] at d1 hC
          clear hkx hky
          have HC : Hid (∀ o, Calls Tryd.prog 36 #[.agg #[.int .i64 kx, .int .i64 ky, sl']] (wr.alloc o) fun e w' => e = .returned (.bool r) ∧ Below (wr.alloc o).heap.size (wr.alloc o) w') := hC
          have hwn := fun o => hnx.alloc hnx.size o
          clear hC
          obtain ⟨sa, sn, sc, rfl⟩ : ∃ a n c, sl' = .slice a n c := by
            cases f with
            | zero => exact tr.elim
            | succ f => obtain ⟨a, c, e, _⟩ := tr; exact ⟨_, _, _, e⟩
          cases r with
          | true =>
            obtain rfl : R = true := by rw [HR2.out]; exact HT.out rfl
            go_wp2_with (go_at_call 36; refine (HC.out _).mono ?_; rintro e w2 ⟨rfl, hb2⟩)
            go_ret
            exact ⟨rfl, below2 (hwn _) hb2⟩
          | false =>
            go_wp2_with (go_at_call 36; refine (HC.out _).mono ?_; rintro e w2 ⟨rfl, hb2⟩)
            go_roundw
            case rel => exact ⟨m + 1, by omega, by go_num, HS, below2 (hwn _) hb2⟩
            case measure => simp [intOf]; omega
        · obtain rfl : m = K.length := by omega
          obtain rfl : R = false := by rw [HR2.out, ← hA.out, List.take_length]
          go_wp2
          go_ret
          exact ⟨rfl, hnx⟩

/-- A handle anywhere is found from the first node. -/
theorem hnd_up {L : List Nd} : ∀ (s : List Nat) (j : Nat), Path (upAt L) (j :: s) → (∀ x ∈ j :: s, x < L.length) → hnd L (L.length - j) j = true → hnd L L.length 0 = true
  | [], j, h, _, hh => by obtain ⟨rfl, _⟩ := h; simpa using hh
  | i :: s, j, h, hm, hh => by
    obtain ⟨h1, h2, h3⟩ := h
    refine hnd_up s i h3 (fun x hx => hm x (List.mem_cons_of_mem _ hx)) ?_
    have hj := hm j (by simp)
    have hi := hm i (by simp)
    have hk : j ∈ kidsOf L i := by unfold kidsOf; simp [h1, h2, hj]
    have mono : ∀ (f k : Nat), hnd L f k = true → hnd L (f + 1) k = true := by
      intro f
      induction f with
      | zero => intro k h; simp [hnd] at h
      | succ f ih =>
        intro k h
        unfold hnd at h ⊢
        rw [Bool.or_eq_true] at h ⊢
        rcases h with h | h
        · exact Or.inl h
        · right
          obtain ⟨q, hq1, hq2⟩ := List.any_eq_true.1 h
          exact List.any_eq_true.2 ⟨q, hq1, ih q hq2⟩
    have mono2 : ∀ (d f k : Nat), hnd L f k = true → hnd L (f + d) k = true := by
      intro d
      induction d with
      | zero => intro f k h; exact h
      | succ d ih => intro f k h; exact mono _ k (ih f k h)
    have h4 := mono2 (L.length - i - 1 - (L.length - j)) _ _ hh
    rw [show L.length - j + (L.length - i - 1 - (L.length - j)) = L.length - i - 1 by omega] at h4
    rw [show L.length - i = (L.length - i - 1) + 1 by omega]
    unfold hnd
    rw [Bool.or_eq_true]
    right
    exact List.any_eq_true.2 ⟨j, hk, h4⟩
theorem hnd_down {L : List Nd} : ∀ (f k : Nat), hnd L f k = true → ∃ j, j < max L.length (k + 1) ∧ isH (kdAt L j) = true
  | 0, k, h => by simp [hnd] at h
  | f + 1, k, h => by
    unfold hnd at h
    rw [Bool.or_eq_true] at h
    rcases h with h | h
    · exact ⟨k, by omega, h⟩
    · obtain ⟨q, hq1, hq2⟩ := List.any_eq_true.1 h
      obtain ⟨j, hj1, hj2⟩ := hnd_down f q hq2
      have := kids_mem hq1
      exact ⟨j, by omega, hj2⟩
theorem hnd_all {L : List Nd} (hg : goodT L = true) : hnd L L.length 0 = L.any (fun x => isH x.1) := by
  have h1 : 1 ≤ L.length ∧ ∃ s, stk (upAt L) (L.length - 1) = some s := by
    unfold goodT at hg
    simp at hg
    obtain ⟨⟨⟨a, b⟩, c⟩, d⟩ := hg
    exact ⟨by omega, Option.isSome_iff_exists.1 c⟩
  obtain ⟨h1, s, hs⟩ := h1
  cases e : L.any (fun x => isH x.1) with
  | true =>
    obtain ⟨x, hx, hxh⟩ := List.any_eq_true.1 e
    obtain ⟨j, hj, rfl⟩ := List.getElem_of_mem hx
    obtain ⟨t, ht⟩ := stk_up hs (show j ≤ L.length - 1 by omega)
    obtain ⟨p1, p2, p3, p4⟩ := stk_good _ _ ht
    cases t with
    | nil => simp at p2
    | cons a r =>
      simp at p2
      subst p2
      refine hnd_up r a p1 (fun x hx => by have := p4 x hx; omega) ?_
      rw [show L.length - a = (L.length - a - 1) + 1 by omega]
      unfold hnd
      rw [kdAt_get L a hj, hxh]
      rfl
  | false =>
    cases h : hnd L L.length 0 with
    | false => rfl
    | true =>
      obtain ⟨j, hj, hjh⟩ := hnd_down _ _ h
      have hj' : j < L.length := by omega
      rw [kdAt_get L j hj'] at hjh
      have : L.any (fun x => isH x.1) = true := List.any_eq_true.2 ⟨L[j], List.getElem_mem hj', hjh⟩
      rw [this] at e
      cases e

end Go.Proofs.YtfepbjkfabmiiaaDoor
