/-
  The types of the parts of a value of noughts: they stay where they lie. (Made by a generator.)
-/
import Derived.Test.YtlimlpidbjkofaaDoorVE
import Derived.Test.YtlimlpidbjkofaaDoorYPm
import Derived.Test.YtlimlpidbjkofaaDoorQHide
import Derived.Deep.RegionWith
namespace Go.Proofs.YtlimlpidbjkofaaDoor
open Go.ChangeShapes Go.WideShapes Go.ChangeAt Go.RowKit

theorem Row3.stay {c0 c1 : Nat → Value} {kids : Nat → List Nat} {lo hi f : Nat} {w w' : World} {ks : List Nat} {sl : Value} (h : Row3 c0 c1 (R3 c0 c1 kids lo hi f) lo hi w ks sl) (hh : hi ≤ w.heap.size) (hb : Below w.heap.size w w') : Row3 c0 c1 (R3 c0 c1 kids lo hi f) lo hi w' ks sl :=
  h.keep (Nat.le_refl _) (Nat.le_refl _) (fun g _ h2 => hb.block g (by omega))
theorem Row4.stay {c0 c1 c2 : Nat → Value} {kids : Nat → List Nat} {lo hi f : Nat} {w w' : World} {ks : List Nat} {sl : Value} (h : Row4 c0 c1 c2 (R4 c0 c1 c2 kids lo hi f) lo hi w ks sl) (hh : hi ≤ w.heap.size) (hb : Below w.heap.size w w') : Row4 c0 c1 c2 (R4 c0 c1 c2 kids lo hi f) lo hi w' ks sl :=
  h.keep (Nat.le_refl _) (Nat.le_refl _) (fun g _ h2 => hb.block g (by omega))

def KidsSI (L : List Nd) (f k : Nat) : Prop := ∀ (w : World) (lo hi : Nat) (a : Option Addr) (cap : Nat) (n : Int) (s : ByteArray) (va : Option Addr) (c vc : Nat), (kidsOf L k).length ≤ cap →
  Hid (∀ j (h : j < (kidsOf L k).length), ∃ g off sl', a = some ⟨g, off, none⟩ ∧ lo ≤ g ∧ g < hi ∧
    w.cell? ⟨g, off + j * 3, none⟩ = some (.int .i64 (kdAt L (kidsOf L k)[j])) ∧ w.cell? ⟨g, off + j * 3 + 1, none⟩ = some (.int .i64 (nAt L (kidsOf L k)[j])) ∧ w.cell? ⟨g, off + j * 3 + 2, none⟩ = some sl' ∧ S3 L lo hi f w (kidsOf L k)[j] sl') → hi ≤ w.heap.size → tkOk (kdAt L k) (kidsOf L k) n c →
  Calls Tryd.prog 48 #[.agg #[.int .i64 (kdAt L k), .int .i64 (nAt L k), .slice a (kidsOf L k).length cap], .agg #[.int .i64 n, .string s, .slice va c vc]] w fun e w' => ∃ sl, e = .returned sl ∧ Row3 (fun k => .int .i64 (kdAt L k)) (fun k => .int .i64 (nAt L k)) (R3 (fun k => .int .i64 (kdAt L k)) (fun k => .int .i64 (nAt L k)) (kidsOf L) lo hi f) lo hi w' (tk (kdAt L k) (kidsOf L k) n c) sl ∧ Below w.heap.size w w'


def KidsBI (L : List Nd) (f k : Nat) : Prop := ∀ (w : World) (lo hi : Nat) (a : Option Addr) (cap : Nat) (n : Int) (c : Nat), (kidsOf L k).length ≤ cap →
  Hid (∀ j (h : j < (kidsOf L k).length), ∃ g off sl', a = some ⟨g, off, none⟩ ∧ lo ≤ g ∧ g < hi ∧
    w.cell? ⟨g, off + j * 4, none⟩ = some (.int .i64 (kdAt L (kidsOf L k)[j])) ∧ w.cell? ⟨g, off + j * 4 + 1, none⟩ = some (.int .i64 (nAt L (kidsOf L k)[j])) ∧ w.cell? ⟨g, off + j * 4 + 2, none⟩ = some (.int .i64 (upAt L (kidsOf L k)[j])) ∧ w.cell? ⟨g, off + j * 4 + 3, none⟩ = some sl' ∧ RN L lo hi f w (kidsOf L k)[j] sl') → hi ≤ w.heap.size → tkOk (kdAt L k) (kidsOf L k) n c → (kdAt L k ≠ 13 → kdAt L k ≠ 14 → kdAt L k ≠ 15 → kdAt L k ≠ 17 → kdAt L k ≠ 18 → kidsOf L k = []) →
  Calls Tryd.prog 67 #[.int .i64 (kdAt L k), .slice a (kidsOf L k).length cap, .int .i64 n, .int .i64 (c : Int)] w fun e w' => ∃ sl, e = .returned sl ∧ Row4 (fun k => .int .i64 (kdAt L k)) (fun k => .int .i64 (nAt L k)) (fun k => .int .i64 (upAt L k)) (R4 (fun k => .int .i64 (kdAt L k)) (fun k => .int .i64 (nAt L k)) (fun k => .int .i64 (upAt L k)) (kidsOf L) lo hi f) lo hi w' (tk (kdAt L k) (kidsOf L k) n c) sl ∧ Below w.heap.size w w'


set_option maxRecDepth 100000 in
set_option maxHeartbeats 3200000 in
theorem specKids_in (L : List Nd) (f k : Nat) (h13 : kdAt L k ≠ 13) : KidsSI L f k := by
  intro w lo hi a cap n s va c vc hcap H hhi hok
  obtain ⟨_, _, o15, o17, o40⟩ := hok
  obtain ⟨K, hK⟩ : ∃ K, kidsOf L k = K := ⟨_, rfl⟩
  have HROW : Hid (Row3 (fun k => .int .i64 (kdAt L k)) (fun k => .int .i64 (nAt L k)) (R3 (fun k => .int .i64 (kdAt L k)) (fun k => .int .i64 (nAt L k)) (kidsOf L) lo hi f) lo hi w K (.slice a K.length cap)) := by
    subst hK
    exact ⟨a, cap, rfl, hcap, H.out⟩
  have HH : Hid (∀ j (h : j < K.length), ∃ g off sl', a = some ⟨g, off, none⟩ ∧ lo ≤ g ∧ g < hi ∧
    w.cell? ⟨g, off + j * 3, none⟩ = some (.int .i64 (kdAt L K[j])) ∧ w.cell? ⟨g, off + j * 3 + 1, none⟩ = some (.int .i64 (nAt L K[j])) ∧ w.cell? ⟨g, off + j * 3 + 2, none⟩ = some sl' ∧ S3 L lo hi f w K[j] sl') := by
    subst hK; exact H.out
  rw [hK] at hcap o15 o17 o40 ⊢
  obtain ⟨x, hx⟩ : ∃ x, kdAt L k = x := ⟨_, rfl⟩
  obtain ⟨y, hy⟩ : ∃ y, nAt L k = y := ⟨_, rfl⟩
  rw [hx] at h13 o15 o17 ⊢
  rw [hy]
  clear hx hy hK H
  have e13 : (x == 13) = false := by rw [beq_eq_false_iff_ne]; exact h13
  by_cases h14 : x = 14
  · subst h14
    have ht : tk 14 K n c = K := by simp [tk]
    rw [ht]
    go_enter Tryd.func48, Tryd.ntmps48
    go_wp2
    go_ret
    refine ⟨_, rfl, HROW.out.stay hhi ?_, ?_⟩ <;> (repeat (first | refine Below.alloc ?_ (by first | (simp; done) | (simp; omega)) _ | refine Below.setCell ?_ (by first | (simp; done) | (simp; omega)) _ | refine bel_dN ?_ _ | refine Below.drew ?_ | exact Below.refl _ _))
  · have e14 : (x == 14) = false := by rw [beq_eq_false_iff_ne]; exact h14
    by_cases h15 : x = 15 ∨ x = 18
    · obtain ⟨n0, n1⟩ := o15 h15
      obtain ⟨N, hN⟩ : ∃ N : Nat, n = (N : Int) := ⟨n.toNat, by omega⟩
      subst hN
      have hNK : N < K.length := by omega
      obtain ⟨g, off, _, hga, _, _, _⟩ := HH.out N hNK
      have ht : tk x K (N : Int) c = (K.drop N).take 1 := by
        unfold tk; rw [if_neg h13, if_neg h14, if_pos h15]; rfl
      have HCUT : Hid (Row3 (fun k => .int .i64 (kdAt L k)) (fun k => .int .i64 (nAt L k)) (R3 (fun k => .int .i64 (kdAt L k)) (fun k => .int .i64 (nAt L k)) (kidsOf L) lo hi f) lo hi w ((K.drop N).take 1) (.slice (some ⟨g, off + N * 3, none⟩) 1 (cap - N))) := Row3.cut HH.out N 1 g off hga (by omega) (by omega)
      subst hga
      rw [ht]
      have hw1 : wrap64 ((N : Int) + 1) = (N : Int) + 1 := w64v (by omega) (by omega)
      have hNc : ¬ (cap : Int) < (N : Int) + 1 := by omega
      clear ht
      rcases h15 with rfl | rfl
      all_goals
        go_enter Tryd.func48, Tryd.ntmps48
        go_wp2
        go_ret
        refine ⟨_, rfl, HCUT.out.stay hhi ?_, ?_⟩ <;> (repeat (first | refine Below.alloc ?_ (by first | (simp; done) | (simp; omega)) _ | refine Below.setCell ?_ (by first | (simp; done) | (simp; omega)) _ | refine bel_dN ?_ _ | refine Below.drew ?_ | exact Below.refl _ _))
    · have e15 : (x == 15) = false := by rw [beq_eq_false_iff_ne]; exact fun h => h15 (Or.inl h)
      have e18 : (x == 18) = false := by rw [beq_eq_false_iff_ne]; exact fun h => h15 (Or.inr h)
      by_cases h17 : x = 17
      · obtain ⟨n0, n1, n2⟩ := o17 h17
        obtain ⟨N, hN⟩ : ∃ N : Nat, n = (N : Int) := ⟨n.toNat, by omega⟩
        subst hN
        obtain ⟨g, off, _, hga, _, _, _⟩ := HH.out 0 n2
        have ht : tk x K (N : Int) c = (K.drop 0).take N := by
          unfold tk; rw [if_neg h13, if_neg h14, if_neg h15, if_pos h17]; rfl
        have HCUT : Hid (Row3 (fun k => .int .i64 (kdAt L k)) (fun k => .int .i64 (nAt L k)) (R3 (fun k => .int .i64 (kdAt L k)) (fun k => .int .i64 (nAt L k)) (kidsOf L) lo hi f) lo hi w ((K.drop 0).take N) (.slice (some ⟨g, off + 0 * 3, none⟩) N cap)) := Row3.cut HH.out 0 N g off hga (by omega) (by omega)
        rw [Nat.zero_mul, Nat.add_zero] at HCUT
        subst hga h17
        rw [ht]
        have hNc : ¬ (cap : Int) < (N : Int) := by omega
        clear ht
        go_enter Tryd.func48, Tryd.ntmps48
        go_wp2
        go_ret
        refine ⟨_, rfl, HCUT.out.stay hhi ?_, ?_⟩ <;> (repeat (first | refine Below.alloc ?_ (by first | (simp; done) | (simp; omega)) _ | refine Below.setCell ?_ (by first | (simp; done) | (simp; omega)) _ | refine bel_dN ?_ _ | refine Below.drew ?_ | exact Below.refl _ _))
      · have e17 : (x == 17) = false := by rw [beq_eq_false_iff_ne]; exact h17
        have ht : tk x K n c = [] := by
          unfold tk; rw [if_neg h13, if_neg h14, if_neg h15, if_neg h17]
        rw [ht]
        go_enter Tryd.func48, Tryd.ntmps48
        go_wp2
        go_ret
        refine ⟨_, rfl, ⟨none, 0, rfl, Nat.le_refl _, fun j h => absurd h (by simp)⟩, ?_⟩
        (repeat (first | refine Below.alloc ?_ (by first | (simp; done) | (simp; omega)) _ | refine Below.setCell ?_ (by first | (simp; done) | (simp; omega)) _ | refine bel_dN ?_ _ | refine Below.drew ?_ | exact Below.refl _ _))


set_option maxRecDepth 100000 in
set_option maxHeartbeats 3200000 in
theorem implKids_in (L : List Nd) (f k : Nat) (h13 : kdAt L k ≠ 13) : KidsBI L f k := by
  intro w lo hi a cap n c hcap H hhi hok hnil
  obtain ⟨_, _, o15, o17, o40⟩ := hok
  obtain ⟨K, hK⟩ : ∃ K, kidsOf L k = K := ⟨_, rfl⟩
  have HROW : Hid (Row4 (fun k => .int .i64 (kdAt L k)) (fun k => .int .i64 (nAt L k)) (fun k => .int .i64 (upAt L k)) (R4 (fun k => .int .i64 (kdAt L k)) (fun k => .int .i64 (nAt L k)) (fun k => .int .i64 (upAt L k)) (kidsOf L) lo hi f) lo hi w K (.slice a K.length cap)) := by
    subst hK
    exact ⟨a, cap, rfl, hcap, H.out⟩
  have HH : Hid (∀ j (h : j < K.length), ∃ g off sl', a = some ⟨g, off, none⟩ ∧ lo ≤ g ∧ g < hi ∧
    w.cell? ⟨g, off + j * 4, none⟩ = some (.int .i64 (kdAt L K[j])) ∧ w.cell? ⟨g, off + j * 4 + 1, none⟩ = some (.int .i64 (nAt L K[j])) ∧ w.cell? ⟨g, off + j * 4 + 2, none⟩ = some (.int .i64 (upAt L K[j])) ∧ w.cell? ⟨g, off + j * 4 + 3, none⟩ = some sl' ∧ RN L lo hi f w K[j] sl') := by
    subst hK; exact H.out
  rw [hK] at hcap o15 o17 o40 hnil ⊢
  obtain ⟨x, hx⟩ : ∃ x, kdAt L k = x := ⟨_, rfl⟩
  rw [hx] at h13 o15 o17 hnil ⊢
  clear hx hK H
  have e13 : (x == 13) = false := by rw [beq_eq_false_iff_ne]; exact h13
  by_cases h15 : x = 15 ∨ x = 18
  · obtain ⟨n0, n1⟩ := o15 h15
    obtain ⟨N, hN⟩ : ∃ N : Nat, n = (N : Int) := ⟨n.toNat, by omega⟩
    subst hN
    have hNK : N < K.length := by omega
    obtain ⟨g, off, _, hga, _, _, _⟩ := HH.out N hNK
    have ht : tk x K (N : Int) c = (K.drop N).take 1 := by
      unfold tk; rw [if_neg h13, if_neg (by omega), if_pos h15]; rfl
    have HCUT : Hid (Row4 (fun k => .int .i64 (kdAt L k)) (fun k => .int .i64 (nAt L k)) (fun k => .int .i64 (upAt L k)) (R4 (fun k => .int .i64 (kdAt L k)) (fun k => .int .i64 (nAt L k)) (fun k => .int .i64 (upAt L k)) (kidsOf L) lo hi f) lo hi w ((K.drop N).take 1) (.slice (some ⟨g, off + N * 4, none⟩) 1 (cap - N))) := Row4.cut HH.out N 1 g off hga (by omega) (by omega)
    subst hga
    rw [ht]
    have hw1 : wrap64 ((N : Int) + 1) = (N : Int) + 1 := w64v (by omega) (by omega)
    have hNc : ¬ (cap : Int) < (N : Int) + 1 := by omega
    clear ht
    rcases h15 with rfl | rfl
    all_goals
      go_enter Tryd.func67, Tryd.ntmps67
      go_wp2
      go_ret
      refine ⟨_, rfl, HCUT.out.stay hhi ?_, ?_⟩ <;> (repeat (first | refine Below.alloc ?_ (by first | (simp; done) | (simp; omega)) _ | refine Below.setCell ?_ (by first | (simp; done) | (simp; omega)) _ | refine bel_dN ?_ _ | refine Below.drew ?_ | exact Below.refl _ _))
  · have e15 : (x == 15) = false := by rw [beq_eq_false_iff_ne]; exact fun h => h15 (Or.inl h)
    have e18 : (x == 18) = false := by rw [beq_eq_false_iff_ne]; exact fun h => h15 (Or.inr h)
    by_cases h17 : x = 17
    · obtain ⟨n0, n1, n2⟩ := o17 h17
      obtain ⟨N, hN⟩ : ∃ N : Nat, n = (N : Int) := ⟨n.toNat, by omega⟩
      subst hN
      obtain ⟨g, off, _, hga, _, _, _⟩ := HH.out 0 n2
      have ht : tk x K (N : Int) c = (K.drop 0).take N := by
        unfold tk; rw [if_neg h13, if_neg (by omega), if_neg h15, if_pos h17]; rfl
      have HCUT : Hid (Row4 (fun k => .int .i64 (kdAt L k)) (fun k => .int .i64 (nAt L k)) (fun k => .int .i64 (upAt L k)) (R4 (fun k => .int .i64 (kdAt L k)) (fun k => .int .i64 (nAt L k)) (fun k => .int .i64 (upAt L k)) (kidsOf L) lo hi f) lo hi w ((K.drop 0).take N) (.slice (some ⟨g, off + 0 * 4, none⟩) N cap)) := Row4.cut HH.out 0 N g off hga (by omega) (by omega)
      rw [Nat.zero_mul, Nat.add_zero] at HCUT
      subst hga h17
      rw [ht]
      have hNc : ¬ (cap : Int) < (N : Int) := by omega
      clear ht
      go_enter Tryd.func67, Tryd.ntmps67
      go_wp2
      go_ret
      refine ⟨_, rfl, HCUT.out.stay hhi ?_, ?_⟩ <;> (repeat (first | refine Below.alloc ?_ (by first | (simp; done) | (simp; omega)) _ | refine Below.setCell ?_ (by first | (simp; done) | (simp; omega)) _ | refine bel_dN ?_ _ | refine Below.drew ?_ | exact Below.refl _ _))
    · have e17 : (x == 17) = false := by rw [beq_eq_false_iff_ne]; exact h17
      have ht : tk x K n c = K := by
        unfold tk
        rw [if_neg h13]
        by_cases h14 : x = 14
        · rw [if_pos h14]
        · rw [if_neg h14, if_neg h15, if_neg h17, hnil h13 h14 (fun h => h15 (Or.inl h)) h17 (fun h => h15 (Or.inr h))]
      rw [ht]
      clear ht hnil
      go_enter Tryd.func67, Tryd.ntmps67
      go_wp2
      go_ret
      refine ⟨_, rfl, HROW.out.stay hhi ?_, ?_⟩ <;> (repeat (first | refine Below.alloc ?_ (by first | (simp; done) | (simp; omega)) _ | refine Below.setCell ?_ (by first | (simp; done) | (simp; omega)) _ | refine bel_dN ?_ _ | refine Below.drew ?_ | exact Below.refl _ _))


/-- The parts that a value of noughts has. -/
def zk (L : List Nd) (k : Nat) : List Nat := tk (kdAt L k) (kidsOf L k) 0 0
theorem part15 {L : List Nd} (h : goodT L = true) {k : Nat} (hk : k < L.length) (e : kdAt L k = 15) : 1 ≤ (kidsOf L k).length := by
  have hg := good_node h hk
  unfold nodeOk at hg
  simp only [Bool.and_eq_true, decide_eq_true_eq] at hg
  obtain ⟨⟨⟨⟨⟨_, _⟩, h3⟩, _⟩, _⟩, _⟩ := hg
  have e1 : (L.getD k (0, 0, -1)).1 = kdAt L k := rfl
  rw [e1, e] at h3
  simp [shp4] at h3
  omega
theorem zk_ok {L : List Nd} (hG : goodT L = true) {k : Nat} (hk : k < L.length) : tkOk (kdAt L k) (kidsOf L k) 0 0 := by
  obtain ⟨_, _, _, g40, g1, g2, _⟩ := gnode hG hk
  refine ⟨by omega, fun e => g1 (Or.inl e), fun e => ⟨by omega, ?_⟩, fun e => ⟨by omega, by omega, by have := g1 (Or.inr e); omega⟩, g40⟩
  rcases e with e | e
  · have := part15 hG hk e; omega
  · have := g2 e; omega
theorem zk_mem {L : List Nd} {k : Nat} : ∀ j ∈ zk L k, j ∈ kidsOf L k := by
  intro j hj
  unfold zk tk at hj
  split at hj
  · simp at hj
  · split at hj
    · exact hj
    · split at hj
      · exact List.mem_of_mem_drop (List.mem_of_mem_take hj)
      · split at hj
        · exact List.mem_of_mem_take hj
        · simp at hj
theorem zk_list {L : List Nd} {k : Nat} (h : kdAt L k = 13) : zk L k = [] := by unfold zk tk; rw [if_pos h]; rfl

/-- The same of the specification's, in one. -/
theorem specKids0 (L : List Nd) (hG : goodT L = true) (f k : Nat) (hk : k < L.length) (w : World) (lo hi : Nat) (a : Option Addr) (cap : Nat) (hcap : (kidsOf L k).length ≤ cap)
    (H : Hid (∀ j (h : j < (kidsOf L k).length), ∃ g off sl', a = some ⟨g, off, none⟩ ∧ lo ≤ g ∧ g < hi ∧
      w.cell? ⟨g, off + j * 3, none⟩ = some (.int .i64 (kdAt L (kidsOf L k)[j])) ∧ w.cell? ⟨g, off + j * 3 + 1, none⟩ = some (.int .i64 (nAt L (kidsOf L k)[j])) ∧ w.cell? ⟨g, off + j * 3 + 2, none⟩ = some sl' ∧ S3 L lo hi f w (kidsOf L k)[j] sl')) (hhi : hi ≤ w.heap.size) :
    Calls Tryd.prog 48 #[.agg #[.int .i64 (kdAt L k), .int .i64 (nAt L k), .slice a (kidsOf L k).length cap], .agg #[.int .i64 0, .string ⟨#[]⟩, .slice none 0 0]] w fun e w' => ∃ sl, e = .returned sl ∧ Row3 (fun k => .int .i64 (kdAt L k)) (fun k => .int .i64 (nAt L k)) (R3 (fun k => .int .i64 (kdAt L k)) (fun k => .int .i64 (nAt L k)) (kidsOf L) lo hi f) lo hi w' (zk L k) sl ∧ Below w.heap.size w w' := by
  by_cases h13 : kdAt L k = 13
  · refine (specKids_list L f k h13 w lo hi a cap 0 _ none 0 0 hcap H hhi (zk_ok hG hk)).mono ?_
    rintro e w' ⟨sl, rfl, hr, hb⟩
    have e0 : tk (kdAt L k) (kidsOf L k) 0 0 = [] := zk_list h13
    rw [e0] at hr
    obtain ⟨a', cap', rfl, _, _⟩ := hr
    rw [zk_list h13]
    exact ⟨_, rfl, ⟨a', cap', rfl, by simp, fun j h => absurd h (by simp)⟩, hb⟩
  · exact specKids_in L f k h13 w lo hi a cap 0 _ none 0 0 hcap H hhi (zk_ok hG hk)

/-- The program's. -/
theorem implKids0 (L : List Nd) (hG : goodT L = true) (f k : Nat) (hk : k < L.length) (w : World) (lo hi : Nat) (a : Option Addr) (cap : Nat) (u : Int) (hcap : (kidsOf L k).length ≤ cap)
    (H : Hid (∀ j (h : j < (kidsOf L k).length), ∃ g off sl', a = some ⟨g, off, none⟩ ∧ lo ≤ g ∧ g < hi ∧
      w.cell? ⟨g, off + j * 4, none⟩ = some (.int .i64 (kdAt L (kidsOf L k)[j])) ∧ w.cell? ⟨g, off + j * 4 + 1, none⟩ = some (.int .i64 (nAt L (kidsOf L k)[j])) ∧ w.cell? ⟨g, off + j * 4 + 2, none⟩ = some (.int .i64 (upAt L (kidsOf L k)[j])) ∧ w.cell? ⟨g, off + j * 4 + 3, none⟩ = some sl' ∧ RN L lo hi f w (kidsOf L k)[j] sl')) (hhi : hi ≤ w.heap.size) :
    Calls Tryd.prog 55 #[.agg #[.int .i64 (kdAt L k), .int .i64 (nAt L k), .int .i64 u, .slice a (kidsOf L k).length cap], .int .i64 0, .int .i64 0] w fun e w' => ∃ sl, e = .returned sl ∧ Row4 (fun k => .int .i64 (kdAt L k)) (fun k => .int .i64 (nAt L k)) (fun k => .int .i64 (upAt L k)) (R4 (fun k => .int .i64 (kdAt L k)) (fun k => .int .i64 (nAt L k)) (fun k => .int .i64 (upAt L k)) (kidsOf L) lo hi f) lo hi w' (zk L k) sl ∧ Below w.heap.size w w' := by
  obtain ⟨_, _, _, _, _, _, hnil⟩ := gnode hG hk
  by_cases h13 : kdAt L k = 13
  · refine (implKids L f k w lo hi a cap u 0 0 hcap H hhi (zk_ok hG hk) hnil).mono ?_
    rintro e w' ⟨sl, rfl, hr, hb⟩
    have e0 : tk (kdAt L k) (kidsOf L k) 0 0 = [] := zk_list h13
    rw [e0] at hr
    obtain ⟨a', cap', rfl, _, _⟩ := hr
    rw [zk_list h13]
    exact ⟨_, rfl, ⟨a', cap', rfl, by simp, fun j h => absurd h (by simp)⟩, hb⟩
  · have HBS : Hid (∀ W, Below w.heap.size w W → Calls Tryd.prog 67 #[.int .i64 (kdAt L k), .slice a (kidsOf L k).length cap, .int .i64 0, .int .i64 0] W fun e w' => ∃ sl, e = .returned sl ∧ Row4 (fun k => .int .i64 (kdAt L k)) (fun k => .int .i64 (nAt L k)) (fun k => .int .i64 (upAt L k)) (R4 (fun k => .int .i64 (kdAt L k)) (fun k => .int .i64 (nAt L k)) (fun k => .int .i64 (upAt L k)) (kidsOf L) lo hi f) lo hi w' (zk L k) sl ∧ Below w.heap.size w w') := fun W hW => by
      refine (implKids_in L f k h13 W lo hi a cap 0 0 hcap (fun j h => ?_) (Nat.le_trans hhi hW.size) (zk_ok hG hk) hnil).mono ?_
      · obtain ⟨g, off, sl', h0, h1, h2, h3, h4, h5, h6, h7⟩ := H.out j h
        have hg : g < w.heap.size := Nat.lt_of_lt_of_le h2 hhi
        exact ⟨g, off, sl', h0, h1, h2, (hW.cell (p := ⟨g, _, none⟩) hg).trans h3, (hW.cell (p := ⟨g, _, none⟩) hg).trans h4, (hW.cell (p := ⟨g, _, none⟩) hg).trans h5, (hW.cell (p := ⟨g, _, none⟩) hg).trans h6, R4.below h7 hW hhi⟩
      · rintro e w1 ⟨sl, rfl, hr, hb⟩
        exact ⟨sl, rfl, hr, below2 hW hb⟩
    have HAL : Hid (∀ o, Below w.heap.size w (w.alloc o)) := fun o => (Below.refl _ _).alloc (Nat.le_refl _) o
    clear H hnil hcap hhi h13
    obtain ⟨K, hK⟩ : ∃ K, kidsOf L k = K := ⟨_, rfl⟩
    obtain ⟨x, hx⟩ : ∃ x, kdAt L k = x := ⟨_, rfl⟩
    obtain ⟨y, hy⟩ : ∃ y, nAt L k = y := ⟨_, rfl⟩
    obtain ⟨Z, hZ⟩ : ∃ Z, zk L k = Z := ⟨_, rfl⟩
    rw [hx, hK, hZ] at HBS
    rw [hx, hK, hZ, hy]
    clear hx hy hK hZ
    go_enter Tryd.func55, Tryd.ntmps55
    go_wp2_with fail
    refine (HBS.out _ (HAL.out _)).mono ?_
    rintro e w1 ⟨sl, rfl, hr, hb⟩
    have HR : Hid (Row4 (fun k => .int .i64 (kdAt L k)) (fun k => .int .i64 (nAt L k)) (fun k => .int .i64 (upAt L k)) (R4 (fun k => .int .i64 (kdAt L k)) (fun k => .int .i64 (nAt L k)) (fun k => .int .i64 (upAt L k)) (kidsOf L) lo hi f) lo hi w1 Z sl) := hr
    have HB : Hid (Below w.heap.size w w1) := hb
    clear hr hb HBS HAL
    go_wp2
    go_ret
    exact ⟨_, rfl, HR.out, HB.out⟩

end Go.Proofs.YtlimlpidbjkofaaDoor

namespace Go.Proofs.YtlimlpidbjkofaaDoor
open Go.ChangeShapes Go.WideShapes Go.ChangeAt Go.RowKit

theorem new_blk {w : World} {c : Array Value} {t : TypeId} {g : Nat} (h : w.heap.size = g) : (w.alloc (.cells c t)).heap[g]? = some (.cells c t (0, 0)) := by rw [← h]; exact heap_alloc_new _ _
theorem old_blk {w : World} {o : Obj} {g : Nat} {x : Obj} (h : w.heap[g]? = some x) : (w.alloc o).heap[g]? = some x := by
  refine (Below.heap_alloc _ _ _ ?_).trans h
  rcases Nat.lt_or_ge g w.heap.size with h' | h'
  · exact h'
  · rw [Array.getElem?_eq_none h'] at h; simp at h
theorem bel_z {a b c : World} (h : Below a.heap.size a b) (k : Below b.heap.size b c) : Below a.heap.size a c := h.trans (k.mono h.size)
theorem zk_len {L : List Nd} (hG : goodT L = true) {k : Nat} (hk : k < L.length) : (zk L k).length ≤ 40 := by
  obtain ⟨_, _, _, g40, _, _, _⟩ := gnode hG hk
  unfold zk tk
  split
  · simp
  · split
    · omega
    · split
      · simp; omega
      · split
        · simp
        · simp

def ZS (L : List Nd) (lo hi f : Nat) (w : World) (k : Nat) (sl : Value) : Prop := R3 (fun _ => .int .i64 0) (fun _ => .string ⟨#[]⟩) (zk L) lo hi f w k sl
def ZeroS (L : List Nd) (f k : Nat) : Prop := ∀ (w : World) (lo hi : Nat) (sl : Value), S3 L lo hi f w k sl → hi ≤ w.heap.size → Calls Tryd.prog 36 #[.agg #[.int .i64 (kdAt L k), .int .i64 (nAt L k), sl]] w fun e w' => ∃ sl', e = .returned (.agg #[.int .i64 0, .string ⟨#[]⟩, sl']) ∧ ZS L w.heap.size w'.heap.size f w' k sl' ∧ Below w.heap.size w w'

set_option maxRecDepth 100000 in
set_option maxHeartbeats 3200000 in
theorem specZero (L : List Nd) (hG : goodT L = true) : ∀ (f k : Nat), k < L.length → ZeroS L f k := by
  intro f
  induction f with
  | zero => intro k hk w lo hi sl h; exact h.elim
  | succ f ih =>
    intro k hk w lo hi sl h hhi
    obtain ⟨i0, hi0, hz0, hz1, hz2⟩ := info_parts Tryd.infoTrV
    have IH : Hid (∀ k, k < L.length → ZeroS L f k) := ih
    clear ih
    obtain ⟨a, cap, rfl, hcap, hh⟩ := h
    have HKC : Hid (∀ W, Below w.heap.size w W → Calls Tryd.prog 48 #[.agg #[.int .i64 (kdAt L k), .int .i64 (nAt L k), .slice a (kidsOf L k).length cap], .agg #[.int .i64 0, .string ⟨#[]⟩, .slice none 0 0]] W fun e w' => ∃ sl, e = .returned sl ∧ Row3 (fun k => .int .i64 (kdAt L k)) (fun k => .int .i64 (nAt L k)) (R3 (fun k => .int .i64 (kdAt L k)) (fun k => .int .i64 (nAt L k)) (kidsOf L) lo hi f) lo hi w' (zk L k) sl ∧ Below W.heap.size W w') := fun W hW => by
      refine specKids0 L hG f k hk W lo hi a cap hcap (fun j hj => ?_) (Nat.le_trans hhi hW.size)
      obtain ⟨g, off, sl', h3, h4, h5, c0, c1, c2, h9⟩ := hh j hj
      have hg : g < w.heap.size := Nat.lt_of_lt_of_le h5 hhi
      exact ⟨g, off, sl', h3, h4, h5, (hW.cell (p := ⟨g, _, none⟩) hg).trans c0, (hW.cell (p := ⟨g, _, none⟩) hg).trans c1, (hW.cell (p := ⟨g, _, none⟩) hg).trans c2, R3.below h9 hW hhi⟩
    have HZM : Hid (∀ j ∈ zk L k, j < L.length) := fun j hj => by
      have := zk_mem j hj
      unfold kidsOf at this
      exact List.mem_range.1 (List.mem_filter.1 this).1
    have hK40 : (zk L k).length ≤ 40 := zk_len hG hk
    obtain ⟨K, hK⟩ : ∃ K, zk L k = K := ⟨_, rfl⟩
    have HK : Hid (zk L k = K) := hK
    rw [hK] at HKC HZM hK40
    obtain ⟨nk, hnk⟩ : ∃ n, (kidsOf L k).length = n := ⟨_, rfl⟩
    rw [hnk] at HKC ⊢
    obtain ⟨x, hx⟩ : ∃ x, kdAt L k = x := ⟨_, rfl⟩
    obtain ⟨y, hy⟩ : ∃ y, nAt L k = y := ⟨_, rfl⟩
    rw [hx, hy] at HKC ⊢
    clear hx hy hnk hh hcap hK
    obtain ⟨z, hz⟩ : ∃ z, w.heap.size = z := ⟨_, rfl⟩
    have HAL : Hid (∀ o1 o2 o3, Below w.heap.size w (((w.alloc o1).alloc o2).alloc o3)) := fun o1 o2 o3 => (((Below.refl _ _).alloc (Nat.le_refl _) _).alloc (by simp) _).alloc (by simp; omega) _
    go_enter Tryd.func36, Tryd.ntmps36
    go_wp2_with fail
    refine (HKC.out _ (HAL.out _ _ _)).mono ?_
    rintro e w1 ⟨slK, rfl, hrK, b2⟩
    have b1 := HAL.out (.cells #[.int .i64 x, .int .i64 y, .slice a nk cap] 52) (.cells #[.int .i64 0, .string ⟨#[]⟩, .slice none 0 0] 56) (.cells #[.int .i64 0, .string ⟨#[]⟩, .slice none 0 0] 56)
    have s2 := b2.size
    simp at s2
    have q1 : w1.heap[z + 1]? = some (.cells #[.int .i64 0, .string ⟨#[]⟩, .slice none 0 0] 56 (0, 0)) := (b2.block (z + 1) (by simp; omega)).trans (old_blk (new_blk (by simp; omega)))
    have q2 : w1.heap[z + 2]? = some (.cells #[.int .i64 0, .string ⟨#[]⟩, .slice none 0 0] 56 (0, 0)) := (b2.block (z + 2) (by simp; omega)).trans (new_blk (by simp; omega))
    obtain ⟨ka, kc, hke, hkcap, hhk⟩ := hrK
    subst hke
    have HROW : Hid (∀ W, Below w.heap.size w W → ∀ j (h : j < K.length), ∃ g off sl', ka = some ⟨g, off, none⟩ ∧ lo ≤ g ∧ g < hi ∧ W.cell? ⟨g, off + j * 3, none⟩ = some (.int .i64 (kdAt L K[j])) ∧ W.cell? ⟨g, off + j * 3 + 1, none⟩ = some (.int .i64 (nAt L K[j])) ∧ W.cell? ⟨g, off + j * 3 + 2, none⟩ = some sl' ∧ S3 L lo hi f W K[j] sl') := fun W hW j h => by
      obtain ⟨g, off, sl', h3, h4, h5, c0, c1, c2, h9⟩ := hhk j h
      have hk9 : ∀ g, g < hi → W.heap[g]? = w1.heap[g]? := fun g hg => (hW.block g (by omega)).trans ((bel_z b1 b2).block g (by omega)).symm
      exact ⟨g, off, sl', h3, h4, h5, (cell_heap (hk9 g h5) _).trans c0, (cell_heap (hk9 g h5) _).trans c1, (cell_heap (hk9 g h5) _).trans c2, R3.keep h9 fun g _ h2 => hk9 g h2⟩
    have hb1 := bel_z b1 b2
    rw [hz] at hb1 HROW
    have hzw : z + 3 ≤ w1.heap.size := by omega
    clear HKC HAL b1 b2 s2 hhk
    go_wp2
    go_loopw [11] (fun i wr => ∃ (m : Nat) (cur : Value) (xs : List Value), m ≤ K.length ∧ i = .int .i64 (m : Int) ∧ wr.heap[z + 1]? = some (.cells #[.int .i64 0, .string ⟨#[]⟩, .slice none 0 0] 56 (0, 0)) ∧ wr.heap[z + 2]? = some (.cells #[.int .i64 0, .string ⟨#[]⟩, cur] 56 (0, 0)) ∧
      wr.ownsRow (z + 3) 56 3 cur m xs ∧
      Hid (∀ i (hm : i < m) (h : i < K.length), ∃ lo hi sl', z + 3 ≤ lo ∧ hi ≤ wr.heap.size ∧ xs[i * 3]? = some (.int .i64 0) ∧ xs[i * 3 + 1]? = some (.string ⟨#[]⟩) ∧ xs[i * 3 + 2]? = some sl' ∧ ZS L lo hi f wr K[i] sl' ∧ (∀ g, cur.ownBlock = some g → ¬ (lo ≤ g ∧ g < hi))) ∧ z + 3 ≤ wr.heap.size ∧ Below z w wr) (fun i _ => K.length - (intOf i).toNat)
    case atStart => exact ⟨0, .slice none 0 0, [], by omega, rfl, q1, q2, World.ownsRow_nil _ _ _ _, fun i hm => absurd hm (by omega), hzw, hb1⟩
    case round =>
      clear q1 q2 hb1 hzw
      obtain ⟨m, cur, xs, hm, rfl, r0, r1, hrow, hT, hsz, hnx⟩ := hrel
      obtain ⟨ca, cc, rfl⟩ := ownsRow_shape hrow
      by_cases hlt : m < K.length
      · have hltI : (m : Int) < (K.length : Int) := by omega
        obtain ⟨g, off, sl', hga, hg1, hg2, d0, d1, d2, htr⟩ := HROW.out wr hnx m hlt
        subst hga
        obtain ⟨sa, sn, sc, rfl⟩ := R3.form htr
        have HKM : Hid (K[m] < L.length) := HZM.out _ (List.getElem_mem hlt)
        obtain ⟨km, hkm⟩ : ∃ km, K[m] = km := ⟨_, rfl⟩
        have HKMe : Hid (K[m] = km) := hkm
        rw [hkm] at d0 d1 htr HKM
        have hgw : g < z := by rw [← hz]; exact Nat.lt_of_lt_of_le hg2 hhi
        -- the part's own block
        obtain ⟨wa, hwa⟩ : ∃ wa, wr.alloc (.cells #[.int .i64 (kdAt L km), .int .i64 (nAt L km), .slice sa sn sc] 52) = wa := ⟨_, rfl⟩
        have ba : Below wr.heap.size wr wa := by rw [← hwa]; exact (Below.refl _ _).alloc (Nat.le_refl _) _
        have sa9 : wa.heap.size = wr.heap.size + 1 := by rw [← hwa]; simp
        obtain ⟨q, hq⟩ : ∃ q, wr.heap.size = q := ⟨_, rfl⟩
        have pq : wa.heap[q]? = some (.cells #[.int .i64 (kdAt L km), .int .i64 (nAt L km), .slice sa sn sc] 52 (0, 0)) := by rw [← hwa]; exact new_blk hq
        have r1a := (ba.block (z + 2) (by omega)).trans r1
        have HI9 : Calls Tryd.prog 36 #[.agg #[.int .i64 (kdAt L km), .int .i64 (nAt L km), .slice sa sn sc]] wa.drew fun e w' => ∃ sl', e = .returned (.agg #[.int .i64 0, .string ⟨#[]⟩, sl']) ∧ ZS L wa.heap.size w'.heap.size f w' km sl' ∧ Below wa.heap.size wa.drew w' := by
          have hwd : Below w.heap.size w wa.drew := by rw [hz]; exact (hnx.trans (ba.mono (by omega))).drew
          refine IH.out km HKM.out wa.drew lo hi _ (R3.keep htr fun g _ h2 => ?_) (Nat.le_trans hhi hwd.size)
          exact (hwd.block g (by omega)).trans (hnx.block g (by omega)).symm
        have HQ : Hid (wr.heap.size = q ∧ wa.heap.size = q + 1) := ⟨hq, by omega⟩
        have HBA : Hid (Below wr.heap.size wr wa) := ba
        clear htr ba sa9 hkm
        go_upto_region 5 with fail
        try rw [hwa]
        clear hwa d0 d1 d2
        have hq2 : z + 2 < q := by have := HQ.out.1; omega
        have pc : ∀ j v, [.int .i64 (kdAt L km), .int .i64 (nAt L km), .slice sa sn sc][j]? = some v → wa.cell? ⟨q, j, none⟩ = some v := fun j v hj => by
          rw [cell_of_block pq]
          simpa using hj
        have p0 : wa.drew.cell? ⟨q, 0, none⟩ = some (.int .i64 (kdAt L km)) := pc 0 _ rfl
        have p1 : wa.drew.cell? ⟨q, 1, none⟩ = some (.int .i64 (nAt L km)) := pc 1 _ rfl
        have p2 : wa.drew.cell? ⟨q, 2, none⟩ = some (.slice sa sn sc) := pc 2 _ rfl
        refine wa_begin (by kernel_rfl) ?_
        refine wa_take 0 (some 15) (.pointer (some ⟨z + 2, 2, none⟩)) rfl rfl (by kernel_rfl) (by kernel_rfl) (by kernel_rfl) (fun _ _ _ h => h) (by rfl) (fun w' => by first | rfl | (go_simp; done)) ?_
        simp only [Act.put, List.setIfInBounds_toArray, List.set_cons_zero, List.set_cons_succ]
        refine wa_first 1 (some 16) (.slice ca m cc) (fun w' => w'.heap[z + 2]? = some (.cells #[.int .i64 0, .string ⟨#[]⟩, .slice ca m cc] 56 (0, 0))) rfl rfl (by kernel_rfl) (by kernel_rfl) (by kernel_rfl) (fun _ _ _ h => h) (by rfl) (fun w' hS => by have q := (cell_of_block hS 2).trans rfl; first | rfl | (go_simp; done)) r1a ?_
        simp only [Act.put, List.setIfInBounds_toArray, List.set_cons_zero, List.set_cons_succ]
        refine wb_val 2 (some 17) (.agg #[.int .i64 (kdAt L km), .int .i64 (nAt L km), .slice sa sn sc]) wa.drew (by kernel_rfl) (by kernel_rfl) rfl rfl (by rfl) (by first | rfl | (go_simp; done)) r1a ?_
        simp only [Act.put, List.setIfInBounds_toArray, List.set_cons_zero, List.set_cons_succ]
        refine wb_call 3 (some 18) 36 #[.agg #[.int .i64 (kdAt L km), .int .i64 (nAt L km), .slice sa sn sc]] (by kernel_rfl) (by kernel_rfl) rfl rfl (by rfl) (by kernel_rfl) ?_
        refine HI9.mono ?_
        rintro e V1 ⟨sl, rfl, htr, hb1⟩
        have hb1' : Below wa.heap.size wa V1 := ⟨hb1.os, hb1.tape, hb1.output, hb1.size, hb1.block⟩
        have hV1 := hb1'.size
        obtain ⟨hq, hqa⟩ := HQ.out
        have ba := HBA.out
        have s1 : V1.heap[z + 2]? = some (.cells #[.int .i64 0, .string ⟨#[]⟩, .slice ca m cc] 56 (0, 0)) := (hb1'.block _ (by omega)).trans r1a
        refine ⟨_, rfl, s1, ?_⟩
        simp only [Act.put, List.setIfInBounds_toArray, List.set_cons_zero, List.set_cons_succ]
        obtain ⟨ea, en, ec, rfl⟩ := R3.form htr
        have s2 : (V1.alloc (.cells #[.int .i64 0, .string ⟨#[]⟩, .slice ea en ec] 56)).heap[z + 2]? = some (.cells #[.int .i64 0, .string ⟨#[]⟩, .slice ca m cc] 56 (0, 0)) := old_blk s1
        refine wb_val 4 (some 19) (.slice (some ⟨V1.heap.size, 0, none⟩) 1 1) (V1.alloc (.cells #[.int .i64 0, .string ⟨#[]⟩, .slice ea en ec] 56)) (by kernel_rfl) (by kernel_rfl) rfl rfl (by rfl) (by first | rfl | go_simp) s2 ?_
        simp only [Act.put, List.setIfInBounds_toArray, List.set_cons_zero, List.set_cons_succ]
        have hcl : ∀ c, (Value.slice ca m cc).ownBlock = some c → c < wr.heap.size ∧ z + 3 ≤ c := fun c hc => by
          obtain ⟨cu, hcu, h2⟩ := own_at hrow hc
          exact ⟨lt_of_block hcu, h2⟩
        have hrow1 : (V1.alloc (.cells #[.int .i64 0, .string ⟨#[]⟩, .slice ea en ec] 56)).ownsRow (z + 3) 56 3 (.slice ca m cc) m xs := (own_keep hrow fun g hg => by
          have := hcl g hg
          exact (hb1'.block g (by omega)).trans (ba.block g (by omega))).alloc _
        obtain ⟨v', w5, hrun, hown5, hgrow5, _, hloc⟩ := run_append_own_at (P := Tryd.prog) (V1.alloc (.cells #[.int .i64 0, .string ⟨#[]⟩, .slice ea en ec] 56)) (z + 3) 54 54 56 i0 (.agg #[.int .i64 0, .string ⟨#[]⟩, .slice none 0 0]) 3 48 Tryd.underlying54 hi0 hz0 hz1 hz2 rfl (by decide) _ _ _ hrow1 ⟨V1.heap.size, 0, none⟩ 1 1 [.int .i64 0, .string ⟨#[]⟩, .slice ea en ec] rfl (tri_new _ _ _ _ _) (by intro u hu; simp at hu; rcases hu with rfl | rfl | rfl <;> rfl) (by unfold maxLen; omega) (by omega) (by simp; omega)
        obtain ⟨va, vc, rfl⟩ := ownsRow_shape hown5
        have KEEP : ∀ g, g < V1.heap.size → (∀ c, (Value.slice ca m cc).ownBlock = some c → g ≠ c) → w5.heap[g]? = V1.heap[g]? := fun g hg hne => by
          rw [hgrow5.block g (by simp; omega) (fun e => hne g e.symm rfl)]
          exact Below.heap_alloc _ _ _ hg
        refine wb_leave_val 5 (some 20) (.slice va (m + 1) vc) w5 (by kernel_rfl) (by kernel_rfl) rfl rfl (by rfl) (by simp [execOp, resolve, invoke, builtin, Act.eval, hrun, Result.andThen]) ?_
        simp only [Act.put, List.setIfInBounds_toArray, List.set_cons_zero, List.set_cons_succ]
        have s5 : w5.heap[z + 2]? = some (.cells #[.int .i64 0, .string ⟨#[]⟩, .slice ca m cc] 56 (0, 0)) := (KEEP _ (by omega) (fun c hc => by have := (hcl c hc).2; omega)).trans s1
        have g2 := (cell_of_block s5 2).trans rfl
        have f2 := free_of_block s5 2
        refine wa_val 6 (some 21) (.pointer (some ⟨z + 2, 2, none⟩)) w5 (by kernel_rfl) rfl rfl (by rfl) (by first | rfl | go_simp) ?_
        simp only [Act.put, List.setIfInBounds_toArray, List.set_cons_zero, List.set_cons_succ]
        refine wa_store 7 none (w5.setCell ⟨z + 2, 2, none⟩ (.slice va (m + 1) vc)) (by kernel_rfl) rfl rfl (by rfl) (by first | rfl | (go_simp; done)) ?_
        simp only [Act.put]
        refine wa_done (by kernel_rfl) ?_
        have hW9 : ∀ g, g < V1.heap.size → g ≠ z + 2 → (∀ c, (Value.slice ca m cc).ownBlock = some c → g ≠ c) → (w5.setCell ⟨z + 2, 2, none⟩ (.slice va (m + 1) vc)).heap[g]? = V1.heap[g]? := fun g h1 h2 h3 => (heap_setCell_other _ _ _ _ (by simpa using h2)).trans (KEEP g h1 h3)
        have hold : ∀ g, g < wr.heap.size → V1.heap[g]? = wr.heap[g]? := fun g hg => (hb1'.block g (by omega)).trans (ba.block g hg)
        have t0 : (w5.setCell ⟨z + 2, 2, none⟩ (.slice va (m + 1) vc)).heap[z + 1]? = some (.cells #[.int .i64 0, .string ⟨#[]⟩, .slice none 0 0] 56 (0, 0)) := (hW9 _ (by omega) (by omega) (fun c hc => by have := (hcl c hc).2; omega)).trans ((hold _ (by omega)).trans r0)
        have t1 : (w5.setCell ⟨z + 2, 2, none⟩ (.slice va (m + 1) vc)).heap[z + 2]? = some (.cells #[.int .i64 0, .string ⟨#[]⟩, .slice va (m + 1) vc] 56 (0, 0)) := by rw [heap_setCell_same _ _ _ _ _ _ s5]; rfl
        have t2 : (w5.setCell ⟨z + 2, 2, none⟩ (.slice va (m + 1) vc)).ownsRow (z + 3) 56 3 (.slice va (m + 1) vc) (m + 1) (xs ++ [.int .i64 0, .string ⟨#[]⟩, .slice ea en ec]) := own_keep hown5 fun g hg => heap_setCell_other _ _ _ _ (by have := ownsRow_block hown5 g hg; simp; omega)
        have t4 : Below z w (w5.setCell ⟨z + 2, 2, none⟩ (.slice va (m + 1) vc)) := ((((hnx.trans (ba.mono (by omega))).trans (hb1'.mono (by omega))).alloc (by omega) _).grown hgrow5 (by simp; omega) (fun c hc => by have := (hcl c hc).2; omega)).setCell (by simp) _
        have t5 : V1.heap.size < (w5.setCell ⟨z + 2, 2, none⟩ (.slice va (m + 1) vc)).heap.size := by
          have := hgrow5.size
          simp at this ⊢
          omega
        have t6 : Hid (∀ i (hm : i < m + 1) (h : i < K.length), ∃ lo hi sl', z + 3 ≤ lo ∧ hi ≤ (w5.setCell ⟨z + 2, 2, none⟩ (.slice va (m + 1) vc)).heap.size ∧ (xs ++ [.int .i64 0, .string ⟨#[]⟩, .slice ea en ec])[i * 3]? = some (.int .i64 0) ∧ (xs ++ [.int .i64 0, .string ⟨#[]⟩, .slice ea en ec])[i * 3 + 1]? = some (.string ⟨#[]⟩) ∧ (xs ++ [.int .i64 0, .string ⟨#[]⟩, .slice ea en ec])[i * 3 + 2]? = some sl' ∧ ZS L lo hi f (w5.setCell ⟨z + 2, 2, none⟩ (.slice va (m + 1) vc)) K[i] sl' ∧ (∀ g, (Value.slice va (m + 1) vc).ownBlock = some g → ¬ (lo ≤ g ∧ g < hi))) := fun i hi hik => by
          rcases Nat.lt_or_ge i m with h | h
          · obtain ⟨lo, hh, sl', l1, l2, x0, x1, x2, tr, hne⟩ := hT.out i h hik
            refine ⟨lo, hh, sl', l1, by omega, (row3_left hrow.1 h 0 (by omega)).trans x0, (row3_left hrow.1 h 1 (by omega)).trans x1, (row3_left hrow.1 h 2 (by omega)).trans x2, ?_, ?_⟩
            · refine R3.keep tr fun g g1 g2 => ?_
              exact (hW9 g (by omega) (by omega) (fun c hc e => hne c hc (by subst e; exact ⟨g1, g2⟩))).trans (hold g (by omega))
            · intro g hg
              rcases hloc with e | e
              · exact hne g (by rw [← e]; exact hg)
              · rw [hg] at e
                simp at e
                omega
          · have him' : i = m := by omega
            subst him'
            rw [HKMe.out]
            obtain ⟨x0, x1, x2⟩ := row3_right (x := .int .i64 0) (y := .string ⟨#[]⟩) (z := .slice ea en ec) hrow.1
            refine ⟨wa.heap.size, V1.heap.size, .slice ea en ec, by omega, by omega, x0, x1, x2, ?_, ?_⟩
            · refine R3.keep htr fun g g1 g2 => ?_
              exact hW9 g g2 (by omega) (fun c hc e => by have := (hcl c hc).1; omega)
            · intro g hg
              rcases hloc with e | e
              · have := (hcl g (by rw [← e]; exact hg)).1
                omega
              · rw [hg] at e
                simp at e
                omega
        obtain ⟨m1, hm1⟩ : ∃ m1, m + 1 = m1 := ⟨_, rfl⟩
        rw [hm1] at t0 t1 t2 t4 t5 t6 ⊢
        obtain ⟨W9, hW99⟩ : ∃ W9, w5.setCell ⟨z + 2, 2, none⟩ (.slice va m1 vc) = W9 := ⟨_, rfl⟩
        rw [hW99] at t0 t1 t2 t4 t5 t6 ⊢
        clear hW99 hW9 KEEP s1 s2 s5 g2 f2 hrun hown5 hgrow5 hloc hrow1 hcl htr hb1 hb1' hT hrow r0 r1 r1a hold ba HI9 pq pc p0 p1 p2
        go_wp2
        go_roundw
        case rel => exact ⟨m1, _, _, by omega, by rw [← hm1]; go_num, t0, t1, t2, t6, by omega, t4⟩
        case measure => simp [intOf]; omega
      · obtain rfl : m = K.length := by omega
        have hltI : ¬ (K.length : Int) < (K.length : Int) := by omega
        have d0 := (cell_of_block r1 0).trans (show _ = some (Value.int .i64 0) from rfl)
        have d1 := (cell_of_block r1 1).trans (show _ = some (Value.string ⟨#[]⟩) from rfl)
        have d2 := (cell_of_block r1 2).trans (show _ = some (Value.slice ca K.length cc) from rfl)
        have e0 := (cell_of_block r0 0).trans (show _ = some (Value.int .i64 0) from rfl)
        have e1 := (cell_of_block r0 1).trans (show _ = some (Value.string ⟨#[]⟩) from rfl)
        have e2 := (cell_of_block r0 2).trans (show _ = some (Value.slice none 0 0) from rfl)
        have f0 := free_of_block r0 0
        have f1 := free_of_block r0 1
        have f2 := free_of_block r0 2
        obtain ⟨G, hG9⟩ : ∃ G, ((wr.setCell ⟨z + 1, 0, none⟩ (.int .i64 0)).setCell ⟨z + 1, 1, none⟩ (.string ⟨#[]⟩)).setCell ⟨z + 1, 2, none⟩ (.slice ca K.length cc) = G := ⟨_, rfl⟩
        have Z9 : G.heap[z + 1]? = some (.cells #[.int .i64 0, .string ⟨#[]⟩, .slice ca K.length cc] 56 (0, 0)) := by
          rw [← hG9, heap_setCell_same _ _ _ _ _ _ (heap_setCell_same _ _ _ _ _ _ (heap_setCell_same _ _ _ _ _ _ (r0)))]
          rfl
        have k0 := (cell_of_block Z9 0).trans (show _ = some (Value.int .i64 0) from rfl)
        have k1 := (cell_of_block Z9 1).trans (show _ = some (Value.string ⟨#[]⟩) from rfl)
        have k2 := (cell_of_block Z9 2).trans (show _ = some (Value.slice ca K.length cc) from rfl)
        have HO : ∀ g, g ≠ z + 1 → G.heap[g]? = wr.heap[g]? := fun g hg => by
          rw [← hG9]
          exact (heap_setCell_other _ _ _ _ (by simpa using hg)).trans ((heap_setCell_other _ _ _ _ (by simpa using hg)).trans (heap_setCell_other _ _ _ _ (by simpa using hg)))
        have hGs : G.heap.size = wr.heap.size := by rw [← hG9]; simp
        have HB9 : Hid (Below z w G) := by
          unfold Hid
          rw [← hG9]
          exact (((hnx.setCell (by simp) _).setCell (by simp) _).setCell (by simp) _)
        have HR : Hid (ZS L z G.heap.size (f + 1) G k (.slice ca K.length cc)) := by
          refine ⟨ca, cc, by rw [HK.out], by rw [HK.out]; exact own_cap hrow, ?_⟩
          rw [HK.out]
          intro j hj
          obtain ⟨lo, hh, sl', l1, l2, x0, x1, x2, tr, _⟩ := hT.out j hj hj
          obtain ⟨g, c, e, _⟩ := own_pos hrow (by omega)
          simp at e
          obtain ⟨rfl, _⟩ := e
          obtain ⟨cu, hcu, hgb⟩ := own_at hrow (g := g) rfl
          have hgl := lt_of_block hcu
          have hg := HO g (by omega)
          have hl := hrow.1
          refine ⟨g, 0, sl', rfl, by omega, by omega, (cell_heap hg _).trans (by rw [Nat.zero_add]; exact (hrow.cellAt _ (by omega)).trans x0), (cell_heap hg _).trans (by rw [Nat.zero_add]; exact (hrow.cellAt _ (by omega)).trans x1), (cell_heap hg _).trans (by rw [Nat.zero_add]; exact (hrow.cellAt _ (by omega)).trans x2), ?_⟩
          exact R3.wide (by omega) (by omega) (R3.keep tr fun g g1 g2 => HO g (by omega))
        clear HO Z9 hT hrow hGs
        go_wp2
        try rw [hG9]
        exact bodyPost_ret (v := .agg #[.int .i64 0, .string ⟨#[]⟩, .slice ca K.length cc]) (by simp [results, Tryd.results36, go_sem, k0, k1, k2]) rfl ⟨_, rfl, HR.out, HB9.out⟩

def ZI (L : List Nd) (lo hi f : Nat) (w : World) (k : Nat) (sl : Value) : Prop := R4 (fun _ => .int .i64 0) (fun _ => .string ⟨#[]⟩) (fun _ => .int .i64 0) (zk L) lo hi f w k sl
def ZeroI (L : List Nd) (f k : Nat) : Prop := ∀ (w : World) (lo hi : Nat) (u : Int) (sl : Value), RN L lo hi f w k sl → hi ≤ w.heap.size → Calls Tryd.prog 39 #[.agg #[.int .i64 (kdAt L k), .int .i64 (nAt L k), .int .i64 u, sl]] w fun e w' => ∃ sl', e = .returned (.agg #[.int .i64 0, .string ⟨#[]⟩, .int .i64 0, sl']) ∧ ZI L w.heap.size w'.heap.size f w' k sl' ∧ Below w.heap.size w w'

set_option maxRecDepth 100000 in
set_option maxHeartbeats 3200000 in
theorem implZero (L : List Nd) (hG : goodT L = true) : ∀ (f k : Nat), k < L.length → ZeroI L f k := by
  intro f
  induction f with
  | zero => intro k hk w lo hi u sl h; exact h.elim
  | succ f ih =>
    intro k hk w lo hi u sl h hhi
    obtain ⟨i0, hi0, hz0, hz1, hz2⟩ := info_parts Tryd.infoTV
    have IH : Hid (∀ k, k < L.length → ZeroI L f k) := ih
    clear ih
    obtain ⟨a, cap, rfl, hcap, hh⟩ := h
    have HKC : Hid (∀ W, Below w.heap.size w W → Calls Tryd.prog 55 #[.agg #[.int .i64 (kdAt L k), .int .i64 (nAt L k), .int .i64 u, .slice a (kidsOf L k).length cap], .int .i64 0, .int .i64 0] W fun e w' => ∃ sl, e = .returned sl ∧ Row4 (fun k => .int .i64 (kdAt L k)) (fun k => .int .i64 (nAt L k)) (fun k => .int .i64 (upAt L k)) (R4 (fun k => .int .i64 (kdAt L k)) (fun k => .int .i64 (nAt L k)) (fun k => .int .i64 (upAt L k)) (kidsOf L) lo hi f) lo hi w' (zk L k) sl ∧ Below W.heap.size W w') := fun W hW => by
      refine implKids0 L hG f k hk W lo hi a cap u hcap (fun j hj => ?_) (Nat.le_trans hhi hW.size)
      obtain ⟨g, off, sl', h3, h4, h5, c0, c1, c2, c3, h9⟩ := hh j hj
      have hg : g < w.heap.size := Nat.lt_of_lt_of_le h5 hhi
      exact ⟨g, off, sl', h3, h4, h5, (hW.cell (p := ⟨g, _, none⟩) hg).trans c0, (hW.cell (p := ⟨g, _, none⟩) hg).trans c1, (hW.cell (p := ⟨g, _, none⟩) hg).trans c2, (hW.cell (p := ⟨g, _, none⟩) hg).trans c3, R4.below h9 hW hhi⟩
    have HZM : Hid (∀ j ∈ zk L k, j < L.length) := fun j hj => by
      have := zk_mem j hj
      unfold kidsOf at this
      exact List.mem_range.1 (List.mem_filter.1 this).1
    have hK40 : (zk L k).length ≤ 40 := zk_len hG hk
    obtain ⟨K, hK⟩ : ∃ K, zk L k = K := ⟨_, rfl⟩
    have HK : Hid (zk L k = K) := hK
    rw [hK] at HKC HZM hK40
    obtain ⟨nk, hnk⟩ : ∃ n, (kidsOf L k).length = n := ⟨_, rfl⟩
    rw [hnk] at HKC ⊢
    obtain ⟨x, hx⟩ : ∃ x, kdAt L k = x := ⟨_, rfl⟩
    obtain ⟨y, hy⟩ : ∃ y, nAt L k = y := ⟨_, rfl⟩
    rw [hx, hy] at HKC ⊢
    clear hx hy hnk hh hcap hK
    obtain ⟨z, hz⟩ : ∃ z, w.heap.size = z := ⟨_, rfl⟩
    have HAL : Hid (∀ o1 o2 o3, Below w.heap.size w (((w.alloc o1).alloc o2).alloc o3)) := fun o1 o2 o3 => (((Below.refl _ _).alloc (Nat.le_refl _) _).alloc (by simp) _).alloc (by simp; omega) _
    go_enter Tryd.func39, Tryd.ntmps39
    go_wp2_with fail
    refine (HKC.out _ (HAL.out _ _ _)).mono ?_
    rintro e w1 ⟨slK, rfl, hrK, b2⟩
    have b1 := HAL.out (.cells #[.int .i64 x, .int .i64 y, .int .i64 u, .slice a nk cap] 66) (.cells #[.int .i64 0, .string ⟨#[]⟩, .int .i64 0, .slice none 0 0] 69) (.cells #[.int .i64 0, .string ⟨#[]⟩, .int .i64 0, .slice none 0 0] 69)
    have s2 := b2.size
    simp at s2
    have q1 : w1.heap[z + 1]? = some (.cells #[.int .i64 0, .string ⟨#[]⟩, .int .i64 0, .slice none 0 0] 69 (0, 0)) := (b2.block (z + 1) (by simp; omega)).trans (old_blk (new_blk (by simp; omega)))
    have q2 : w1.heap[z + 2]? = some (.cells #[.int .i64 0, .string ⟨#[]⟩, .int .i64 0, .slice none 0 0] 69 (0, 0)) := (b2.block (z + 2) (by simp; omega)).trans (new_blk (by simp; omega))
    obtain ⟨ka, kc, hke, hkcap, hhk⟩ := hrK
    subst hke
    have HROW : Hid (∀ W, Below w.heap.size w W → ∀ j (h : j < K.length), ∃ g off sl', ka = some ⟨g, off, none⟩ ∧ lo ≤ g ∧ g < hi ∧ W.cell? ⟨g, off + j * 4, none⟩ = some (.int .i64 (kdAt L K[j])) ∧ W.cell? ⟨g, off + j * 4 + 1, none⟩ = some (.int .i64 (nAt L K[j])) ∧ W.cell? ⟨g, off + j * 4 + 2, none⟩ = some (.int .i64 (upAt L K[j])) ∧ W.cell? ⟨g, off + j * 4 + 3, none⟩ = some sl' ∧ RN L lo hi f W K[j] sl') := fun W hW j h => by
      obtain ⟨g, off, sl', h3, h4, h5, c0, c1, c2, c3, h9⟩ := hhk j h
      have hk9 : ∀ g, g < hi → W.heap[g]? = w1.heap[g]? := fun g hg => (hW.block g (by omega)).trans ((bel_z b1 b2).block g (by omega)).symm
      exact ⟨g, off, sl', h3, h4, h5, (cell_heap (hk9 g h5) _).trans c0, (cell_heap (hk9 g h5) _).trans c1, (cell_heap (hk9 g h5) _).trans c2, (cell_heap (hk9 g h5) _).trans c3, R4.keep h9 fun g _ h2 => hk9 g h2⟩
    have hb1 := bel_z b1 b2
    rw [hz] at hb1 HROW
    have hzw : z + 3 ≤ w1.heap.size := by omega
    clear HKC HAL b1 b2 s2 hhk
    go_wp2
    go_loopw [9] (fun i wr => ∃ (m : Nat) (cur : Value) (xs : List Value), m ≤ K.length ∧ i = .int .i64 (m : Int) ∧ wr.heap[z + 1]? = some (.cells #[.int .i64 0, .string ⟨#[]⟩, .int .i64 0, .slice none 0 0] 69 (0, 0)) ∧ wr.heap[z + 2]? = some (.cells #[.int .i64 0, .string ⟨#[]⟩, .int .i64 0, cur] 69 (0, 0)) ∧
      wr.ownsRow (z + 3) 69 4 cur m xs ∧
      Hid (∀ i (hm : i < m) (h : i < K.length), ∃ lo hi sl', z + 3 ≤ lo ∧ hi ≤ wr.heap.size ∧ xs[i * 4]? = some (.int .i64 0) ∧ xs[i * 4 + 1]? = some (.string ⟨#[]⟩) ∧ xs[i * 4 + 2]? = some (.int .i64 0) ∧ xs[i * 4 + 3]? = some sl' ∧ ZI L lo hi f wr K[i] sl' ∧ (∀ g, cur.ownBlock = some g → ¬ (lo ≤ g ∧ g < hi))) ∧ z + 3 ≤ wr.heap.size ∧ Below z w wr) (fun i _ => K.length - (intOf i).toNat)
    case atStart => exact ⟨0, .slice none 0 0, [], by omega, rfl, q1, q2, World.ownsRow_nil _ _ _ _, fun i hm => absurd hm (by omega), hzw, hb1⟩
    case round =>
      clear q1 q2 hb1 hzw
      obtain ⟨m, cur, xs, hm, rfl, r0, r1, hrow, hT, hsz, hnx⟩ := hrel
      obtain ⟨ca, cc, rfl⟩ := ownsRow_shape hrow
      by_cases hlt : m < K.length
      · have hltI : (m : Int) < (K.length : Int) := by omega
        obtain ⟨g, off, sl', hga, hg1, hg2, d0, d1, d2, d3, htr⟩ := HROW.out wr hnx m hlt
        subst hga
        obtain ⟨sa, sn, sc, rfl⟩ := R4.form htr
        have HKM : Hid (K[m] < L.length) := HZM.out _ (List.getElem_mem hlt)
        obtain ⟨km, hkm⟩ : ∃ km, K[m] = km := ⟨_, rfl⟩
        have HKMe : Hid (K[m] = km) := hkm
        rw [hkm] at d0 d1 d2 htr HKM
        have hgw : g < z := by rw [← hz]; exact Nat.lt_of_lt_of_le hg2 hhi
        -- the part's own block
        obtain ⟨wa, hwa⟩ : ∃ wa, wr.alloc (.cells #[.int .i64 (kdAt L km), .int .i64 (nAt L km), .int .i64 (upAt L km), .slice sa sn sc] 66) = wa := ⟨_, rfl⟩
        have ba : Below wr.heap.size wr wa := by rw [← hwa]; exact (Below.refl _ _).alloc (Nat.le_refl _) _
        have sa9 : wa.heap.size = wr.heap.size + 1 := by rw [← hwa]; simp
        obtain ⟨q, hq⟩ : ∃ q, wr.heap.size = q := ⟨_, rfl⟩
        have pq : wa.heap[q]? = some (.cells #[.int .i64 (kdAt L km), .int .i64 (nAt L km), .int .i64 (upAt L km), .slice sa sn sc] 66 (0, 0)) := by rw [← hwa]; exact new_blk hq
        have r1a := (ba.block (z + 2) (by omega)).trans r1
        have HI9 : Calls Tryd.prog 39 #[.agg #[.int .i64 (kdAt L km), .int .i64 (nAt L km), .int .i64 (upAt L km), .slice sa sn sc]] wa.drew fun e w' => ∃ sl', e = .returned (.agg #[.int .i64 0, .string ⟨#[]⟩, .int .i64 0, sl']) ∧ ZI L wa.heap.size w'.heap.size f w' km sl' ∧ Below wa.heap.size wa.drew w' := by
          have hwd : Below w.heap.size w wa.drew := by rw [hz]; exact (hnx.trans (ba.mono (by omega))).drew
          refine IH.out km HKM.out wa.drew lo hi (upAt L km) _ (R4.keep htr fun g _ h2 => ?_) (Nat.le_trans hhi hwd.size)
          exact (hwd.block g (by omega)).trans (hnx.block g (by omega)).symm
        have HQ : Hid (wr.heap.size = q ∧ wa.heap.size = q + 1) := ⟨hq, by omega⟩
        have HBA : Hid (Below wr.heap.size wr wa) := ba
        clear htr ba sa9 hkm
        go_upto_region 5 with fail
        try rw [hwa]
        clear hwa d0 d1 d2 d3
        have hq2 : z + 2 < q := by have := HQ.out.1; omega
        have pc : ∀ j v, [.int .i64 (kdAt L km), .int .i64 (nAt L km), .int .i64 (upAt L km), .slice sa sn sc][j]? = some v → wa.cell? ⟨q, j, none⟩ = some v := fun j v hj => by
          rw [cell_of_block pq]
          simpa using hj
        have p0 : wa.drew.cell? ⟨q, 0, none⟩ = some (.int .i64 (kdAt L km)) := pc 0 _ rfl
        have p1 : wa.drew.cell? ⟨q, 1, none⟩ = some (.int .i64 (nAt L km)) := pc 1 _ rfl
        have p2 : wa.drew.cell? ⟨q, 2, none⟩ = some (.int .i64 (upAt L km)) := pc 2 _ rfl
        have p3 : wa.drew.cell? ⟨q, 3, none⟩ = some (.slice sa sn sc) := pc 3 _ rfl
        refine wa_begin (by kernel_rfl) ?_
        refine wa_take 0 (some 13) (.pointer (some ⟨z + 2, 3, none⟩)) rfl rfl (by kernel_rfl) (by kernel_rfl) (by kernel_rfl) (fun _ _ _ h => h) (by rfl) (fun w' => by first | rfl | (go_simp; done)) ?_
        simp only [Act.put, List.setIfInBounds_toArray, List.set_cons_zero, List.set_cons_succ]
        refine wa_first 1 (some 14) (.slice ca m cc) (fun w' => w'.heap[z + 2]? = some (.cells #[.int .i64 0, .string ⟨#[]⟩, .int .i64 0, .slice ca m cc] 69 (0, 0))) rfl rfl (by kernel_rfl) (by kernel_rfl) (by kernel_rfl) (fun _ _ _ h => h) (by rfl) (fun w' hS => by have q := (cell_of_block hS 3).trans rfl; first | rfl | (go_simp; done)) r1a ?_
        simp only [Act.put, List.setIfInBounds_toArray, List.set_cons_zero, List.set_cons_succ]
        refine wb_val 2 (some 15) (.agg #[.int .i64 (kdAt L km), .int .i64 (nAt L km), .int .i64 (upAt L km), .slice sa sn sc]) wa.drew (by kernel_rfl) (by kernel_rfl) rfl rfl (by rfl) (by first | rfl | (go_simp; done)) r1a ?_
        simp only [Act.put, List.setIfInBounds_toArray, List.set_cons_zero, List.set_cons_succ]
        refine wb_call 3 (some 16) 39 #[.agg #[.int .i64 (kdAt L km), .int .i64 (nAt L km), .int .i64 (upAt L km), .slice sa sn sc]] (by kernel_rfl) (by kernel_rfl) rfl rfl (by rfl) (by kernel_rfl) ?_
        refine HI9.mono ?_
        rintro e V1 ⟨sl, rfl, htr, hb1⟩
        have hb1' : Below wa.heap.size wa V1 := ⟨hb1.os, hb1.tape, hb1.output, hb1.size, hb1.block⟩
        have hV1 := hb1'.size
        obtain ⟨hq, hqa⟩ := HQ.out
        have ba := HBA.out
        have s1 : V1.heap[z + 2]? = some (.cells #[.int .i64 0, .string ⟨#[]⟩, .int .i64 0, .slice ca m cc] 69 (0, 0)) := (hb1'.block _ (by omega)).trans r1a
        refine ⟨_, rfl, s1, ?_⟩
        simp only [Act.put, List.setIfInBounds_toArray, List.set_cons_zero, List.set_cons_succ]
        obtain ⟨ea, en, ec, rfl⟩ := R4.form htr
        have s2 : (V1.alloc (.cells #[.int .i64 0, .string ⟨#[]⟩, .int .i64 0, .slice ea en ec] 69)).heap[z + 2]? = some (.cells #[.int .i64 0, .string ⟨#[]⟩, .int .i64 0, .slice ca m cc] 69 (0, 0)) := old_blk s1
        refine wb_val 4 (some 17) (.slice (some ⟨V1.heap.size, 0, none⟩) 1 1) (V1.alloc (.cells #[.int .i64 0, .string ⟨#[]⟩, .int .i64 0, .slice ea en ec] 69)) (by kernel_rfl) (by kernel_rfl) rfl rfl (by rfl) (by first | rfl | go_simp) s2 ?_
        simp only [Act.put, List.setIfInBounds_toArray, List.set_cons_zero, List.set_cons_succ]
        have hcl : ∀ c, (Value.slice ca m cc).ownBlock = some c → c < wr.heap.size ∧ z + 3 ≤ c := fun c hc => by
          obtain ⟨cu, hcu, h2⟩ := own_at hrow hc
          exact ⟨lt_of_block hcu, h2⟩
        have hrow1 : (V1.alloc (.cells #[.int .i64 0, .string ⟨#[]⟩, .int .i64 0, .slice ea en ec] 69)).ownsRow (z + 3) 69 4 (.slice ca m cc) m xs := (own_keep hrow fun g hg => by
          have := hcl g hg
          exact (hb1'.block g (by omega)).trans (ba.block g (by omega))).alloc _
        obtain ⟨v', w5, hrun, hown5, hgrow5, _, hloc⟩ := run_append_own_at (P := Tryd.prog) (V1.alloc (.cells #[.int .i64 0, .string ⟨#[]⟩, .int .i64 0, .slice ea en ec] 69)) (z + 3) 67 67 69 i0 (.agg #[.int .i64 0, .string ⟨#[]⟩, .int .i64 0, .slice none 0 0]) 4 56 Tryd.underlying67 hi0 hz0 hz1 hz2 rfl (by decide) _ _ _ hrow1 ⟨V1.heap.size, 0, none⟩ 1 1 [.int .i64 0, .string ⟨#[]⟩, .int .i64 0, .slice ea en ec] rfl (four_new _ _ _ _ _ _ _ rfl) (by intro u hu; simp at hu; rcases hu with rfl | rfl | rfl | rfl <;> rfl) (by unfold maxLen; omega) (by omega) (by simp; omega)
        obtain ⟨va, vc, rfl⟩ := ownsRow_shape hown5
        have KEEP : ∀ g, g < V1.heap.size → (∀ c, (Value.slice ca m cc).ownBlock = some c → g ≠ c) → w5.heap[g]? = V1.heap[g]? := fun g hg hne => by
          rw [hgrow5.block g (by simp; omega) (fun e => hne g e.symm rfl)]
          exact Below.heap_alloc _ _ _ hg
        refine wb_leave_val 5 (some 18) (.slice va (m + 1) vc) w5 (by kernel_rfl) (by kernel_rfl) rfl rfl (by rfl) (by simp [execOp, resolve, invoke, builtin, Act.eval, hrun, Result.andThen]) ?_
        simp only [Act.put, List.setIfInBounds_toArray, List.set_cons_zero, List.set_cons_succ]
        have s5 : w5.heap[z + 2]? = some (.cells #[.int .i64 0, .string ⟨#[]⟩, .int .i64 0, .slice ca m cc] 69 (0, 0)) := (KEEP _ (by omega) (fun c hc => by have := (hcl c hc).2; omega)).trans s1
        have g2 := (cell_of_block s5 3).trans rfl
        have f2 := free_of_block s5 3
        refine wa_val 6 (some 19) (.pointer (some ⟨z + 2, 3, none⟩)) w5 (by kernel_rfl) rfl rfl (by rfl) (by first | rfl | go_simp) ?_
        simp only [Act.put, List.setIfInBounds_toArray, List.set_cons_zero, List.set_cons_succ]
        refine wa_store 7 none (w5.setCell ⟨z + 2, 3, none⟩ (.slice va (m + 1) vc)) (by kernel_rfl) rfl rfl (by rfl) (by first | rfl | (go_simp; done)) ?_
        simp only [Act.put]
        refine wa_done (by kernel_rfl) ?_
        have hW9 : ∀ g, g < V1.heap.size → g ≠ z + 2 → (∀ c, (Value.slice ca m cc).ownBlock = some c → g ≠ c) → (w5.setCell ⟨z + 2, 3, none⟩ (.slice va (m + 1) vc)).heap[g]? = V1.heap[g]? := fun g h1 h2 h3 => (heap_setCell_other _ _ _ _ (by simpa using h2)).trans (KEEP g h1 h3)
        have hold : ∀ g, g < wr.heap.size → V1.heap[g]? = wr.heap[g]? := fun g hg => (hb1'.block g (by omega)).trans (ba.block g hg)
        have t0 : (w5.setCell ⟨z + 2, 3, none⟩ (.slice va (m + 1) vc)).heap[z + 1]? = some (.cells #[.int .i64 0, .string ⟨#[]⟩, .int .i64 0, .slice none 0 0] 69 (0, 0)) := (hW9 _ (by omega) (by omega) (fun c hc => by have := (hcl c hc).2; omega)).trans ((hold _ (by omega)).trans r0)
        have t1 : (w5.setCell ⟨z + 2, 3, none⟩ (.slice va (m + 1) vc)).heap[z + 2]? = some (.cells #[.int .i64 0, .string ⟨#[]⟩, .int .i64 0, .slice va (m + 1) vc] 69 (0, 0)) := by rw [heap_setCell_same _ _ _ _ _ _ s5]; rfl
        have t2 : (w5.setCell ⟨z + 2, 3, none⟩ (.slice va (m + 1) vc)).ownsRow (z + 3) 69 4 (.slice va (m + 1) vc) (m + 1) (xs ++ [.int .i64 0, .string ⟨#[]⟩, .int .i64 0, .slice ea en ec]) := own_keep hown5 fun g hg => heap_setCell_other _ _ _ _ (by have := ownsRow_block hown5 g hg; simp; omega)
        have t4 : Below z w (w5.setCell ⟨z + 2, 3, none⟩ (.slice va (m + 1) vc)) := ((((hnx.trans (ba.mono (by omega))).trans (hb1'.mono (by omega))).alloc (by omega) _).grown hgrow5 (by simp; omega) (fun c hc => by have := (hcl c hc).2; omega)).setCell (by simp) _
        have t5 : V1.heap.size < (w5.setCell ⟨z + 2, 3, none⟩ (.slice va (m + 1) vc)).heap.size := by
          have := hgrow5.size
          simp at this ⊢
          omega
        have t6 : Hid (∀ i (hm : i < m + 1) (h : i < K.length), ∃ lo hi sl', z + 3 ≤ lo ∧ hi ≤ (w5.setCell ⟨z + 2, 3, none⟩ (.slice va (m + 1) vc)).heap.size ∧ (xs ++ [.int .i64 0, .string ⟨#[]⟩, .int .i64 0, .slice ea en ec])[i * 4]? = some (.int .i64 0) ∧ (xs ++ [.int .i64 0, .string ⟨#[]⟩, .int .i64 0, .slice ea en ec])[i * 4 + 1]? = some (.string ⟨#[]⟩) ∧ (xs ++ [.int .i64 0, .string ⟨#[]⟩, .int .i64 0, .slice ea en ec])[i * 4 + 2]? = some (.int .i64 0) ∧ (xs ++ [.int .i64 0, .string ⟨#[]⟩, .int .i64 0, .slice ea en ec])[i * 4 + 3]? = some sl' ∧ ZI L lo hi f (w5.setCell ⟨z + 2, 3, none⟩ (.slice va (m + 1) vc)) K[i] sl' ∧ (∀ g, (Value.slice va (m + 1) vc).ownBlock = some g → ¬ (lo ≤ g ∧ g < hi))) := fun i hi hik => by
          rcases Nat.lt_or_ge i m with h | h
          · obtain ⟨lo, hh, sl', l1, l2, x0, x1, x2, x3, tr, hne⟩ := hT.out i h hik
            refine ⟨lo, hh, sl', l1, by omega, (row4_left hrow.1 h 0 (by omega)).trans x0, (row4_left hrow.1 h 1 (by omega)).trans x1, (row4_left hrow.1 h 2 (by omega)).trans x2, (row4_left hrow.1 h 3 (by omega)).trans x3, ?_, ?_⟩
            · refine R4.keep tr fun g g1 g2 => ?_
              exact (hW9 g (by omega) (by omega) (fun c hc e => hne c hc (by subst e; exact ⟨g1, g2⟩))).trans (hold g (by omega))
            · intro g hg
              rcases hloc with e | e
              · exact hne g (by rw [← e]; exact hg)
              · rw [hg] at e
                simp at e
                omega
          · have him' : i = m := by omega
            subst him'
            rw [HKMe.out]
            obtain ⟨x0, x1, x2, x3⟩ := row4_right (x := .int .i64 0) (y := .string ⟨#[]⟩) (z := .int .i64 0) (u := .slice ea en ec) hrow.1
            refine ⟨wa.heap.size, V1.heap.size, .slice ea en ec, by omega, by omega, x0, x1, x2, x3, ?_, ?_⟩
            · refine R4.keep htr fun g g1 g2 => ?_
              exact hW9 g g2 (by omega) (fun c hc e => by have := (hcl c hc).1; omega)
            · intro g hg
              rcases hloc with e | e
              · have := (hcl g (by rw [← e]; exact hg)).1
                omega
              · rw [hg] at e
                simp at e
                omega
        obtain ⟨m1, hm1⟩ : ∃ m1, m + 1 = m1 := ⟨_, rfl⟩
        rw [hm1] at t0 t1 t2 t4 t5 t6 ⊢
        obtain ⟨W9, hW99⟩ : ∃ W9, w5.setCell ⟨z + 2, 3, none⟩ (.slice va m1 vc) = W9 := ⟨_, rfl⟩
        rw [hW99] at t0 t1 t2 t4 t5 t6 ⊢
        clear hW99 hW9 KEEP s1 s2 s5 g2 f2 hrun hown5 hgrow5 hloc hrow1 hcl htr hb1 hb1' hT hrow r0 r1 r1a hold ba HI9 pq pc p0 p1 p2 p3
        go_wp2
        go_roundw
        case rel => exact ⟨m1, _, _, by omega, by rw [← hm1]; go_num, t0, t1, t2, t6, by omega, t4⟩
        case measure => simp [intOf]; omega
      · obtain rfl : m = K.length := by omega
        have hltI : ¬ (K.length : Int) < (K.length : Int) := by omega
        have d0 := (cell_of_block r1 0).trans (show _ = some (Value.int .i64 0) from rfl)
        have d1 := (cell_of_block r1 1).trans (show _ = some (Value.string ⟨#[]⟩) from rfl)
        have d2 := (cell_of_block r1 2).trans (show _ = some (Value.int .i64 0) from rfl)
        have d3 := (cell_of_block r1 3).trans (show _ = some (Value.slice ca K.length cc) from rfl)
        have e0 := (cell_of_block r0 0).trans (show _ = some (Value.int .i64 0) from rfl)
        have e1 := (cell_of_block r0 1).trans (show _ = some (Value.string ⟨#[]⟩) from rfl)
        have e2 := (cell_of_block r0 2).trans (show _ = some (Value.int .i64 0) from rfl)
        have e3 := (cell_of_block r0 3).trans (show _ = some (Value.slice none 0 0) from rfl)
        have f0 := free_of_block r0 0
        have f1 := free_of_block r0 1
        have f2 := free_of_block r0 2
        have f3 := free_of_block r0 3
        obtain ⟨G, hG9⟩ : ∃ G, (((wr.setCell ⟨z + 1, 0, none⟩ (.int .i64 0)).setCell ⟨z + 1, 1, none⟩ (.string ⟨#[]⟩)).setCell ⟨z + 1, 2, none⟩ (.int .i64 0)).setCell ⟨z + 1, 3, none⟩ (.slice ca K.length cc) = G := ⟨_, rfl⟩
        have Z9 : G.heap[z + 1]? = some (.cells #[.int .i64 0, .string ⟨#[]⟩, .int .i64 0, .slice ca K.length cc] 69 (0, 0)) := by
          rw [← hG9, heap_setCell_same _ _ _ _ _ _ (heap_setCell_same _ _ _ _ _ _ (heap_setCell_same _ _ _ _ _ _ (heap_setCell_same _ _ _ _ _ _ (r0))))]
          rfl
        have k0 := (cell_of_block Z9 0).trans (show _ = some (Value.int .i64 0) from rfl)
        have k1 := (cell_of_block Z9 1).trans (show _ = some (Value.string ⟨#[]⟩) from rfl)
        have k2 := (cell_of_block Z9 2).trans (show _ = some (Value.int .i64 0) from rfl)
        have k3 := (cell_of_block Z9 3).trans (show _ = some (Value.slice ca K.length cc) from rfl)
        have HO : ∀ g, g ≠ z + 1 → G.heap[g]? = wr.heap[g]? := fun g hg => by
          rw [← hG9]
          exact (heap_setCell_other _ _ _ _ (by simpa using hg)).trans ((heap_setCell_other _ _ _ _ (by simpa using hg)).trans ((heap_setCell_other _ _ _ _ (by simpa using hg)).trans (heap_setCell_other _ _ _ _ (by simpa using hg))))
        have hGs : G.heap.size = wr.heap.size := by rw [← hG9]; simp
        have HB9 : Hid (Below z w G) := by
          unfold Hid
          rw [← hG9]
          exact ((((hnx.setCell (by simp) _).setCell (by simp) _).setCell (by simp) _).setCell (by simp) _)
        have HR : Hid (ZI L z G.heap.size (f + 1) G k (.slice ca K.length cc)) := by
          refine ⟨ca, cc, by rw [HK.out], by rw [HK.out]; exact own_cap hrow, ?_⟩
          rw [HK.out]
          intro j hj
          obtain ⟨lo, hh, sl', l1, l2, x0, x1, x2, x3, tr, _⟩ := hT.out j hj hj
          obtain ⟨g, c, e, _⟩ := own_pos hrow (by omega)
          simp at e
          obtain ⟨rfl, _⟩ := e
          obtain ⟨cu, hcu, hgb⟩ := own_at hrow (g := g) rfl
          have hgl := lt_of_block hcu
          have hg := HO g (by omega)
          have hl := hrow.1
          refine ⟨g, 0, sl', rfl, by omega, by omega, (cell_heap hg _).trans (by rw [Nat.zero_add]; exact (hrow.cellAt _ (by omega)).trans x0), (cell_heap hg _).trans (by rw [Nat.zero_add]; exact (hrow.cellAt _ (by omega)).trans x1), (cell_heap hg _).trans (by rw [Nat.zero_add]; exact (hrow.cellAt _ (by omega)).trans x2), (cell_heap hg _).trans (by rw [Nat.zero_add]; exact (hrow.cellAt _ (by omega)).trans x3), ?_⟩
          exact R4.wide (by omega) (by omega) (R4.keep tr fun g g1 g2 => HO g (by omega))
        clear HO Z9 hT hrow hGs
        go_wp2
        try rw [hG9]
        exact bodyPost_ret (v := .agg #[.int .i64 0, .string ⟨#[]⟩, .int .i64 0, .slice ca K.length cc]) (by simp [results, Tryd.results39, go_sem, k0, k1, k2, k3]) rfl ⟨_, rfl, HR.out, HB9.out⟩

end Go.Proofs.YtlimlpidbjkofaaDoor

namespace Go.Proofs.YtlimlpidbjkofaaDoor
open Go.ChangeShapes Go.WideShapes Go.ChangeAt Go.RowKit

def vcs (A : List Vn) : List Value := A.flatMap fun x => [.int .i64 x.1, .string x.2.1, .int .i64 x.2.2]
theorem vcs_app (A B : List Vn) : vcs (A ++ B) = vcs A ++ vcs B := by simp [vcs]
theorem vcs_one (x : Vn) : vcs [x] = [.int .i64 x.1, .string x.2.1, .int .i64 x.2.2] := by simp [vcs]
/-- The row of a tree, behind others; it ends where it is too long. -/
def flc (nv : Nat → Int) (tv : Nat → ByteArray) (kids : Nat → List Nat) : Nat → List Vn → Nat → Int → List Vn
  | 0, acc, _, _ => acc
  | f + 1, acc, k, up => (kids k).foldl (fun a j => if a.length ≤ 100 then flc nv tv kids f a j (acc.length : Int) else a) (acc ++ [(nv k, tv k, up)])
theorem flc_len (nv : Nat → Int) (tv : Nat → ByteArray) (kids : Nat → List Nat) : ∀ (f : Nat) (acc : List Vn) (k : Nat) (up : Int), acc.length ≤ 100 → (flc nv tv kids f acc k up).length ≤ 101
  | 0, acc, _, _, h => by unfold flc; omega
  | f + 1, acc, k, up, h => by
    unfold flc
    have key : ∀ (ks : List Nat) (a : List Vn), a.length ≤ 101 → (ks.foldl (fun a j => if a.length ≤ 100 then flc nv tv kids f a j (acc.length : Int) else a) a).length ≤ 101 := by
      intro ks
      induction ks with
      | nil => intro a ha; exact ha
      | cons j ks ih =>
        intro a ha
        rw [List.foldl_cons]
        apply ih
        split
        · exact flc_len nv tv kids f a j _ (by assumption)
        · exact ha
    exact key _ _ (by simp; omega)
theorem grown_trans {w w1 w2 : World} {o o1 : Option Nat} (h : w.grownBy w1 o) (k : w1.grownBy w2 o1) (ho : ∀ g, o1 = some g → o = some g ∨ w.heap.size ≤ g) : w.grownBy w2 o :=
  ⟨k.os.trans h.os, k.tape.trans h.tape, k.output.trans h.output, Nat.le_trans h.size k.size, fun g hg hne => (k.block g (Nat.lt_of_lt_of_le hg h.size) (fun e => by
    rcases ho g e.symm with e1 | e1
    · exact hne e1.symm
    · omega)).trans (h.block g hg hne)⟩
theorem grown_alloc {w w1 : World} {o : Option Nat} (h : w.grownBy w1 o) (x : Obj) : w.grownBy (w1.alloc x) o :=
  grown_trans h (⟨rfl, rfl, rfl, by simp, fun g hg _ => Below.heap_alloc _ _ _ hg⟩ : w1.grownBy (w1.alloc x) none) (fun g e => by simp at e)
theorem grown_drew {w w1 : World} {o : Option Nat} (h : w.grownBy w1 o) : w.grownBy w1.drew o := ⟨h.os, h.tape, h.output, h.size, h.block⟩

def FlatS (nv : Nat → Int) (tv : Nat → ByteArray) (kids : Nat → List Nat) (f k : Nat) : Prop := ∀ (w : World) (lo hi B : Nat) (sl cv : Value) (acc : List Vn) (up : Int), R3 (fun k => .int .i64 (nv k)) (fun k => .string (tv k)) kids lo hi f w k sl → hi ≤ w.heap.size → B ≤ w.heap.size → w.ownsRow B 62 3 cv acc.length (vcs acc) → acc.length ≤ 100 → Hid (∀ g, cv.ownBlock = some g → ¬ (lo ≤ g ∧ g < hi)) →
  Calls Tryd.prog 35 #[cv, .agg #[.int .i64 (nv k), .string (tv k), sl], .int .i64 up] w fun e w' => ∃ cv', e = .returned cv' ∧ w'.ownsRow B 62 3 cv' (flc nv tv kids f acc k up).length (vcs (flc nv tv kids f acc k up)) ∧ w.grownBy w' cv.ownBlock ∧ ∀ g, cv'.ownBlock = some g → cv.ownBlock = some g ∨ w.heap.size ≤ g

set_option maxRecDepth 100000 in
set_option maxHeartbeats 3200000 in
theorem specFlat (nv : Nat → Int) (tv : Nat → ByteArray) (kids : Nat → List Nat) (h100 : ∀ k, (kids k).length ≤ 1000) : ∀ (f k : Nat), FlatS nv tv kids f k := by
  intro f
  induction f with
  | zero => intro k w lo hi B sl cv acc up h; exact h.elim
  | succ f ih =>
    intro k w lo hi B sl cv acc up h hhi hB hown hacc hdis
    obtain ⟨i0, hi0, hz0, hz1, hz2⟩ := info_parts Tryd.infoVl
    have IH : Hid (∀ k, FlatS nv tv kids f k) := ih
    clear ih
    obtain ⟨a, cap, rfl, hcap, hh⟩ := h
    have hK := h100 k
    have HFL : Hid (flc nv tv kids (f + 1) acc k up = (kids k).foldl (fun a j => if a.length ≤ 100 then flc nv tv kids f a j (acc.length : Int) else a) (acc ++ [(nv k, tv k, up)])) := rfl
    have HH : Hid (∀ j (h : j < (kids k).length), ∃ g off sl', a = some ⟨g, off, none⟩ ∧ lo ≤ g ∧ g < hi ∧
      w.cell? ⟨g, off + j * 3, none⟩ = some (.int .i64 (nv (kids k)[j])) ∧ w.cell? ⟨g, off + j * 3 + 1, none⟩ = some (.string (tv (kids k)[j])) ∧ w.cell? ⟨g, off + j * 3 + 2, none⟩ = some sl' ∧ R3 (fun k => .int .i64 (nv k)) (fun k => .string (tv k)) kids lo hi f w (kids k)[j] sl') := hh
    rw [HFL.out]
    obtain ⟨K, hKe⟩ : ∃ K, kids k = K := ⟨_, rfl⟩
    rw [hKe] at HH hK hcap ⊢
    obtain ⟨x, hx⟩ : ∃ x, nv k = x := ⟨_, rfl⟩
    obtain ⟨y, hy⟩ : ∃ y, tv k = y := ⟨_, rfl⟩
    rw [hx, hy]
    obtain ⟨n, hn⟩ : ∃ n, acc.length = n := ⟨_, rfl⟩
    obtain ⟨A0, hA0⟩ : ∃ A0, acc ++ [(x, y, up)] = A0 := ⟨_, rfl⟩
    have hA0l : A0.length = n + 1 := by rw [← hA0, ← hn]; simp
    have hA0v : vcs acc ++ [.int .i64 x, .string y, .int .i64 up] = vcs A0 := by rw [← hA0, vcs_app, vcs_one]
    rw [hA0, hn]
    rw [hn] at hown hacc
    obtain ⟨G, hGd⟩ : ∃ G : List Vn → Nat → List Vn, (fun (a : List Vn) (j : Nat) => if a.length ≤ 100 then flc nv tv kids f a j (n : Int) else a) = G := ⟨_, rfl⟩
    have HG : Hid (∀ a j, G a j = if a.length ≤ 100 then flc nv tv kids f a j (n : Int) else a) := fun a j => by rw [← hGd]
    have HGL : Hid (∀ a j, a.length ≤ 101 → (G a j).length ≤ 101) := fun a j h => by
      rw [HG.out]; split
      · exact flc_len nv tv kids f a j _ (by assumption)
      · exact h
    rw [hGd]
    clear hx hy hKe hh HFL hA0 hn hGd h100
    obtain ⟨ca, cc, rfl⟩ := ownsRow_shape hown
    go_enter Tryd.func35, Tryd.ntmps35
    go_wp2_with (at_builtin; refine wpList_append_own_at _ rfl _ _ 29 rfl B 62 i0 (.agg #[.int .i64 0, .string ⟨#[]⟩, .int .i64 0]) 3 32 Tryd.underlying29 hi0 hz0 hz1 hz2 rfl (by decide) _ _ _ rfl ((hown.alloc _).alloc _) ⟨w.heap.size + 1, 0, none⟩ 1 1 [.int .i64 x, .string y, .int .i64 up] rfl rfl (by simpa using tri_new (w.alloc (.cells #[.int .i64 x, .string y, .slice a K.length cap] 56)) (.int .i64 x) (.string y) (.int .i64 up) 62) (by intro u hu; simp at hu; rcases hu with rfl | rfl | rfl <;> rfl) (by unfold maxLen; omega) (by omega) (by simp; omega) ?_)
    intro v' w2 hown2 hgrow2 _ hloc
    try rw [hA0v] at hown2
    rw [← hA0l] at hown2
    have hA0b : A0.length ≤ 101 := by omega
    have HA0 : Hid (n + 1 = A0.length) := hA0l.symm
    have hg2 : w.grownBy w2 (Value.slice ca n cc).ownBlock := grown_trans (grown_alloc (grown_alloc (World.grownBy.refl w _) _) _) hgrow2 (fun g e => Or.inl e)
    have hl2 : ∀ g, v'.ownBlock = some g → (Value.slice ca n cc).ownBlock = some g ∨ w.heap.size ≤ g := fun g hg => by
      rcases hloc with e | e
      · exact Or.inl (by rw [← e]; exact hg)
      · rw [hg] at e; simp at e; omega
    obtain ⟨z, hz⟩ : ∃ z, w.heap.size = z := ⟨_, rfl⟩
    have hcz : (Value.slice ca n cc).ownBlock ≠ some z := fun e => by
      obtain ⟨cu, hcu, _⟩ := own_at hown e
      have := lt_of_block hcu
      omega
    have q0 : w2.heap[z]? = some (.cells #[.int .i64 x, .string y, .slice a K.length cap] 56 (0, 0)) := (hgrow2.block z (by simp; omega) (fun e => hcz e.symm)).trans (old_blk (new_blk hz))
    have a2 := (cell_of_block q0 2).trans (show _ = some (Value.slice a K.length cap) from rfl)
    obtain ⟨va, vc, rfl⟩ := ownsRow_shape hown2
    have hs2 := hgrow2.size
    simp at hs2
    have hzl2 : z + 1 ≤ w2.heap.size := by omega
    have HCO : Hid (∀ g, (Value.slice ca n cc).ownBlock = some g → ¬ (lo ≤ g ∧ g < hi)) := hdis
    obtain ⟨co, hco⟩ : ∃ co, (Value.slice ca n cc).ownBlock = co := ⟨_, rfl⟩
    rw [hco] at hg2 hl2 HCO
    clear hgrow2 hloc hown q0 hdis hA0v hs2 hcz hA0l
    have hco9 : ∀ W, w.grownBy W co → ∀ g, lo ≤ g → g < hi → W.heap[g]? = w.heap[g]? := fun W hW g g1 g2 => hW.block g (by omega) (fun e => HCO.out g e.symm ⟨g1, g2⟩)
    have HKP : Hid (∀ W, w.grownBy W co → ∀ g, lo ≤ g → g < hi → W.heap[g]? = w.heap[g]?) := hco9
    have HL2 : Hid (∀ g, (Value.slice va A0.length vc).ownBlock = some g → co = some g ∨ z ≤ g) := fun g hg => by rw [← hz]; exact hl2 g hg
    have HZ : Hid (w.heap.size = z) := hz
    rw [← hz] at a2
    clear hco9 hl2 hz
    go_wp2
    go_loopw [0, 24] (fun v i wr => ∃ (m : Nat) (A : List Vn), m ≤ K.length ∧ i = .int .i64 (m : Int) ∧ Hid (A = (K.take m).foldl G A0) ∧ A.length ≤ 101 ∧ wr.ownsRow B 62 3 v A.length (vcs A) ∧ w.grownBy wr co ∧ Hid (∀ g, v.ownBlock = some g → co = some g ∨ z ≤ g) ∧ z + 1 ≤ wr.heap.size) (fun _ i _ => K.length - (intOf i).toNat)
    case atStart => exact ⟨0, A0, by omega, rfl, by simp [Hid], by omega, hown2, hg2, HL2, hzl2⟩
    case round =>
      clear hown2 hg2 HL2 hzl2 a2
      obtain ⟨m, A, hm, rfl, hA, hAl, hrow, hgr, hlc, hsz⟩ := hrel
      obtain ⟨ra, rc, rfl⟩ := ownsRow_shape hrow
      have hz := HZ.out
      by_cases hlt : m < K.length
      · have hltI : (m : Int) < (K.length : Int) := by omega
        obtain ⟨g, off, sl', rfl, hg1, hg2, c0, c1, c2, htr⟩ := HH.out m hlt
        have hkg := HKP.out wr hgr g hg1 hg2
        obtain ⟨sa, sn, sc, rfl⟩ := R3.form htr
        have HST : Hid ((K.take (m + 1)).foldl G A0 = G A K[m]) := by
          unfold Hid
          rw [List.take_succ_eq_append_getElem hlt, List.foldl_append, ← hA.out]
          rfl
        obtain ⟨km, hkm⟩ : ∃ km, K[m] = km := ⟨_, rfl⟩
        rw [hkm] at c0 c1 htr HST
        have d0 : wr.cell? ⟨g, off + m * 3, none⟩ = some (.int .i64 (nv km)) := (cell_heap hkg _).trans c0
        have d1 : wr.cell? ⟨g, off + m * 3 + 1, none⟩ = some (.string (tv km)) := (cell_heap hkg _).trans c1
        have d2 : wr.cell? ⟨g, off + m * 3 + 2, none⟩ = some (.slice sa sn sc) := (cell_heap hkg _).trans c2
        obtain ⟨m1, hm1⟩ : ∃ m1, m + 1 = m1 := ⟨_, rfl⟩
        rw [hm1] at HST
        have HM1 : Hid (m + 1 = m1) := hm1
        have hml : m1 ≤ K.length := by omega
        clear c0 c1 c2 hkg hkm hm1
        by_cases hc : A.length ≤ 100
        · have hcI : (A.length : Int) ≤ 100 := by omega
          have HGA : Hid (G A km = flc nv tv kids f A km (n : Int)) := by unfold Hid; rw [HG.out, if_pos hc]
          have HIH : Hid (∀ o, Calls Tryd.prog 35 #[.slice ra A.length rc, .agg #[.int .i64 (nv km), .string (tv km), .slice sa sn sc], .int .i64 (n : Int)] (wr.alloc o) fun e w' => ∃ cv', e = .returned cv' ∧ w'.ownsRow B 62 3 cv' (flc nv tv kids f A km (n : Int)).length (vcs (flc nv tv kids f A km (n : Int))) ∧ (wr.alloc o).grownBy w' (Value.slice ra A.length rc).ownBlock ∧ ∀ g, cv'.ownBlock = some g → (Value.slice ra A.length rc).ownBlock = some g ∨ (wr.alloc o).heap.size ≤ g) := fun o => by
            refine IH.out km (wr.alloc o) lo hi B _ _ A (n : Int) (R3.keep htr fun g g1 g2 => ?_) (by simp; omega) (by simp; omega) (hrow.alloc _) hc (fun g hg => ?_)
            · exact (Below.heap_alloc _ _ _ (by omega)).trans (HKP.out wr hgr g g1 g2)
            · rcases hlc.out g hg with e | e
              · exact HCO.out g e
              · omega
          rw [← HGA.out] at HIH
          have hGL := HGL.out A km hAl
          obtain ⟨A1, hA1⟩ : ∃ A1, G A km = A1 := ⟨_, rfl⟩
          rw [hA1] at HIH HST hGL
          have hgw : Hid (∀ o, w.grownBy (wr.alloc o) co) := fun o => grown_alloc hgr o
          clear HGA hA1 htr hz
          go_wp2_with fail
          refine (HIH.out _).mono ?_
          rintro e w5 ⟨cv', rfl, hown5, hgrow5, hloc5⟩
          have hz := HZ.out
          have hs5 := hgrow5.size
          simp at hs5
          have hg5 : w.grownBy w5 co := grown_trans (hgw.out _) hgrow5 (fun g e => by
            rcases hlc.out g e with e1 | e1
            · exact Or.inl e1
            · exact Or.inr (by omega))
          have hl5 : Hid (∀ g, cv'.ownBlock = some g → co = some g ∨ z ≤ g) := fun g hg => by
            rcases hloc5 g hg with e | e
            · exact hlc.out g e
            · simp at e; exact Or.inr (by omega)
          obtain ⟨ra5, rc5, rfl⟩ := ownsRow_shape hown5
          have hz5 : z + 1 ≤ w5.heap.size := by omega
          clear HIH hgrow5 hloc5 hgw hrow hgr hlc d0 d1 d2 hA hz
          go_wp2
          go_roundw
          case rel => exact ⟨m1, A1, hml, by rw [← HM1.out]; go_num, HST.out.symm, hGL, hown5, hg5, hl5, hz5⟩
          case measure => have := HM1.out; simp [intOf]; omega
        · have hcI : ¬ (A.length : Int) ≤ 100 := by omega
          have HGA : Hid (G A km = A) := by unfold Hid; rw [HG.out, if_neg hc]
          rw [HGA.out] at HST
          clear HGA htr
          have hrow' : Hid (∀ o, (wr.alloc o).ownsRow B 62 3 (.slice ra A.length rc) A.length (vcs A)) := fun o => hrow.alloc o
          have hgr' : Hid (∀ o, w.grownBy (wr.alloc o) co) := fun o => grown_alloc hgr o
          clear hrow hgr hA hz
          go_wp2
          go_roundw
          case rel => exact ⟨m1, A, hml, by rw [← HM1.out]; go_num, HST.out.symm, hAl, hrow'.out _, hgr'.out _, hlc, by simp; omega⟩
          case measure => have := HM1.out; simp [intOf]; omega
      · obtain rfl : m = K.length := by omega
        have hltI : ¬ (K.length : Int) < (K.length : Int) := by omega
        have hAe : Hid (A = K.foldl G A0) := by have := hA.out; rw [List.take_length] at this; exact this
        clear hA hz
        go_wp2
        go_ret
        rw [← hAe.out]
        exact ⟨_, rfl, hrow, by first | exact hgr | (rw [hco]; exact hgr), fun g hg => by rw [HZ.out]; first | exact hlc.out g hg | (rw [hco]; exact hlc.out g hg)⟩

end Go.Proofs.YtlimlpidbjkofaaDoor

namespace Go.Proofs.YtlimlpidbjkofaaDoor
open Go.ChangeShapes Go.WideShapes Go.ChangeAt Go.RowKit

/-- The row of a tree, behind others. -/
def flz (nv : Nat → Int) (tv : Nat → ByteArray) (kids : Nat → List Nat) : Nat → List Vn → Nat → Int → List Vn
  | 0, acc, _, _ => acc
  | f + 1, acc, k, up => (kids k).foldl (fun a j => flz nv tv kids f a j (acc.length : Int)) (acc ++ [(nv k, tv k, up)])
theorem fold_ge {G : List Vn → Nat → List Vn} (h : ∀ a j, a.length ≤ (G a j).length) : ∀ (ks : List Nat) (a : List Vn), a.length ≤ (ks.foldl G a).length
  | [], _ => Nat.le_refl _
  | j :: ks, a => Nat.le_trans (h a j) (fold_ge h ks (G a j))
theorem flz_ge (nv : Nat → Int) (tv : Nat → ByteArray) (kids : Nat → List Nat) : ∀ (f : Nat) (acc : List Vn) (k : Nat) (up : Int), acc.length ≤ (flz nv tv kids f acc k up).length
  | 0, acc, _, _ => Nat.le_refl _
  | f + 1, acc, k, up => by
    unfold flz
    exact Nat.le_trans (by simp) (fold_ge (fun a j => flz_ge nv tv kids f a j _) (kids k) (acc ++ [(nv k, tv k, up)]))
theorem fold_part {G : List Vn → Nat → List Vn} (h : ∀ a j, a.length ≤ (G a j).length) (K : List Nat) (m : Nat) (a : List Vn) : ((K.take m).foldl G a).length ≤ (K.foldl G a).length := by
  have e : K.foldl G a = (K.drop m).foldl G ((K.take m).foldl G a) := by rw [← List.foldl_append, List.take_append_drop]
  rw [e]
  exact fold_ge h _ _
/-- Where it is not too long, both tell the same. -/
theorem flc_flz (nv : Nat → Int) (tv : Nat → ByteArray) (kids : Nat → List Nat) : ∀ (f : Nat) (acc : List Vn) (k : Nat) (up : Int), (flz nv tv kids f acc k up).length ≤ 101 → flc nv tv kids f acc k up = flz nv tv kids f acc k up
  | 0, acc, _, _, _ => rfl
  | f + 1, acc, k, up, h => by
    unfold flz at h ⊢
    unfold flc
    have key : ∀ (ks : List Nat) (a : List Vn), (ks.foldl (fun a j => flz nv tv kids f a j (acc.length : Int)) a).length ≤ 101 → (∀ b j, b.length ≤ (flz nv tv kids f b j (acc.length : Int)).length) → ks.foldl (fun a j => if a.length ≤ 100 then flc nv tv kids f a j (acc.length : Int) else a) a = ks.foldl (fun a j => flz nv tv kids f a j (acc.length : Int)) a := by
      intro ks
      induction ks with
      | nil => intro a _ _; rfl
      | cons j ks ih =>
        intro a ha hg
        rw [List.foldl_cons] at ha
        rw [List.foldl_cons, List.foldl_cons]
        have h1 : (flz nv tv kids f a j (acc.length : Int)).length ≤ 101 := Nat.le_trans (fold_ge hg ks _) ha
        by_cases hl : a.length ≤ 100
        · rw [if_pos hl, flc_flz nv tv kids f a j _ h1]
          exact ih _ ha hg
        · rw [if_neg hl]
          have h2 := hg a j
          cases f with
          | zero => exact ih _ ha hg
          | succ f =>
            exfalso
            have h3 : a.length + 1 ≤ (flz nv tv kids (f + 1) a j (acc.length : Int)).length := by
              unfold flz
              have := fold_ge (G := fun x i => flz nv tv kids f x i (a.length : Int)) (fun b i => flz_ge nv tv kids f b i _) (kids j) (a ++ [(nv j, tv j, (acc.length : Int))])
              simpa using this
            omega
    exact key _ _ h (fun b j => flz_ge nv tv kids f b j _)

structure Gr2 (b : Nat) (o : Option Nat) (w w' : World) : Prop where
  os : w'.os = w.os
  tape : w'.tape = w.tape
  output : w'.output = w.output
  size : w.heap.size ≤ w'.heap.size
  block : ∀ g, g < w.heap.size → g ≠ b → some g ≠ o → w'.heap[g]? = w.heap[g]?
theorem Gr2.refl (b : Nat) (o : Option Nat) (w : World) : Gr2 b o w w := ⟨rfl, rfl, rfl, Nat.le_refl _, fun _ _ _ _ => rfl⟩
theorem Gr2.trans {b : Nat} {w w1 w2 : World} {o o1 : Option Nat} (h : Gr2 b o w w1) (k : Gr2 b o1 w1 w2) (ho : ∀ g, o1 = some g → o = some g ∨ w.heap.size ≤ g) : Gr2 b o w w2 :=
  ⟨k.os.trans h.os, k.tape.trans h.tape, k.output.trans h.output, Nat.le_trans h.size k.size, fun g hg hb hne => (k.block g (Nat.lt_of_lt_of_le hg h.size) hb (fun e => by
    rcases ho g e.symm with e1 | e1
    · exact hne e1.symm
    · omega)).trans (h.block g hg hb hne)⟩
theorem Gr2.alloc {b : Nat} {w w1 : World} {o : Option Nat} (h : Gr2 b o w w1) (x : Obj) : Gr2 b o w (w1.alloc x) :=
  h.trans (⟨rfl, rfl, rfl, by simp, fun g hg _ _ => Below.heap_alloc _ _ _ hg⟩ : Gr2 b none w1 (w1.alloc x)) (fun g e => by simp at e)
theorem Gr2.grown {b : Nat} {w w1 w2 : World} {o o1 : Option Nat} (h : Gr2 b o w w1) (k : w1.grownBy w2 o1) (ho : ∀ g, o1 = some g → o = some g ∨ w.heap.size ≤ g) : Gr2 b o w w2 :=
  h.trans (⟨k.os, k.tape, k.output, k.size, fun g hg _ hne => k.block g hg hne⟩ : Gr2 b o1 w1 w2) ho
theorem Gr2.set {b : Nat} {w w1 : World} {o : Option Nat} (h : Gr2 b o w w1) (j : Nat) (v : Value) : Gr2 b o w (w1.setCell ⟨b, j, none⟩ v) :=
  h.trans (⟨rfl, rfl, rfl, by simp, fun g _ hb _ => heap_setCell_other _ _ _ _ (by simpa using hb)⟩ : Gr2 b none w1 (w1.setCell ⟨b, j, none⟩ v)) (fun g e => by simp at e)
/-- The row that is told, behind a variable at block b. -/
structure LB (w : World) (b B : Nat) (cv : Value) (acc : List Vn) : Prop where
  box : w.heap[b]? = some (.cells #[cv] 29 (0, 0))
  row : w.ownsRow B 62 3 cv acc.length (vcs acc)
theorem LB.apart {w : World} {b B : Nat} {cv : Value} {acc : List Vn} (h : LB w b B cv acc) : cv.ownBlock ≠ some b := fun e => by
  obtain ⟨cu, hcu, _⟩ := own_at h.row e
  have h1 := h.box
  rw [hcu] at h1
  simp at h1
theorem LB.alloc {w : World} {b B : Nat} {cv : Value} {acc : List Vn} (h : LB w b B cv acc) (o : Obj) : LB (w.alloc o) b B cv acc := ⟨old_blk h.box, h.row.alloc o⟩

set_option maxRecDepth 100000 in
set_option maxHeartbeats 3200000 in
theorem implVisit (x u : Int) (y : ByteArray) (up : Int) (b B : Nat) (cv : Value) (acc : List Vn) (w : World) (h : LB w b B cv acc) (hB : B ≤ w.heap.size) (hacc : acc.length ≤ 1000) :
    Calls Tryd.prog 54 #[.agg #[.int .i64 x, .string y, .int .i64 u], .int .i64 up, .pointer (some ⟨b, 0, none⟩)] w fun e w' => ∃ cv', e = .returned (.int .i64 (acc.length : Int)) ∧ LB w' b B cv' (acc ++ [(x, y, up)]) ∧ Gr2 b cv.ownBlock w w' ∧ ∀ g, cv'.ownBlock = some g → cv.ownBlock = some g ∨ w.heap.size ≤ g := by
  obtain ⟨i0, hi0, hz0, hz1, hz2⟩ := info_parts Tryd.infoVl
  have hap := h.apart
  obtain ⟨hbox, hrow⟩ := h
  obtain ⟨ca, cc, rfl⟩ := ownsRow_shape hrow
  obtain ⟨n, hn⟩ : ∃ n, acc.length = n := ⟨_, rfl⟩
  rw [hn] at hrow hap hbox hacc ⊢
  have hbl := lt_of_block hbox
  have c0 := (cell_of_block hbox 0).trans (show _ = some (Value.slice ca n cc) from rfl)
  have c0' : (w.alloc (.cells #[.int .i64 x, .string y, .int .i64 u] 62)).cell? ⟨b, 0, none⟩ = some (.slice ca n cc) := (cell_of_block (old_blk hbox) 0).trans rfl
  have hA0v : vcs acc ++ [.int .i64 x, .string y, .int .i64 up] = vcs (acc ++ [(x, y, up)]) := by rw [vcs_app, vcs_one]
  have hA0l : n + 1 = (acc ++ [(x, y, up)]).length := by rw [← hn]; simp
  have HV : Hid (vcs acc ++ [.int .i64 x, .string y, .int .i64 up] = vcs (acc ++ [(x, y, up)])) := hA0v
  have HLn : Hid (n + 1 = (acc ++ [(x, y, up)]).length) := hA0l
  have HN : Hid (acc.length = n) := hn
  have hw1 : wrap64 ((n : Int) + 1 - 1) = (n : Int) := by unfold wrap64; omega
  have HW1 : Hid (wrap64 ((n : Int) + 1 - 1) = (n : Int)) := hw1
  clear hA0v hA0l hn hw1
  go_enter Tryd.func54, Tryd.ntmps54
  go_wp2_with (at_builtin; refine wpList_append_own_at _ rfl _ _ 29 rfl B 62 i0 (.agg #[.int .i64 0, .string ⟨#[]⟩, .int .i64 0]) 3 32 Tryd.underlying29 hi0 hz0 hz1 hz2 rfl (by decide) _ _ _ rfl ((hrow.alloc _).alloc _) ⟨w.heap.size + 1, 0, none⟩ 1 1 [.int .i64 x, .string y, .int .i64 up] rfl rfl (by simpa using tri_new (w.alloc (.cells #[.int .i64 x, .string y, .int .i64 u] 62)) (.int .i64 x) (.string y) (.int .i64 up) 62) (by intro u hu; simp at hu; rcases hu with rfl | rfl | rfl <;> rfl) (by unfold maxLen; omega) (by omega) (by simp; omega) ?_)
  intro v' w2 hown2 hgrow2 _ hloc
  have hs2 := hgrow2.size
  simp at hs2
  have hbox2 : w2.heap[b]? = some (.cells #[.slice ca n cc] 29 (0, 0)) := (hgrow2.block b (by simp; omega) (fun e => hap e.symm)).trans (old_blk (old_blk hbox))
  have hg2 : Gr2 b (Value.slice ca n cc).ownBlock w w2 := (((Gr2.refl b _ w).alloc _).alloc _).grown hgrow2 (fun g e => Or.inl e)
  have hl2 : ∀ g, v'.ownBlock = some g → (Value.slice ca n cc).ownBlock = some g ∨ w.heap.size ≤ g := fun g hg => by
    rcases hloc with e | e
    · exact Or.inl (by rw [← e]; exact hg)
    · rw [hg] at e; simp at e; omega
  obtain ⟨va, vc, rfl⟩ := ownsRow_shape hown2
  have d0 : w2.cell? ⟨b, 0, none⟩ = some (.slice ca n cc) := (cell_of_block hbox2 0).trans rfl
  have f0 := free_of_block hbox2 0
  have hvb : (Value.slice va (n + 1) vc).ownBlock ≠ some b := fun e => by
    obtain ⟨cu, hcu, _⟩ := own_at hown2 e
    rw [hbox2] at hcu
    simp at hcu
  have HE : Hid (LB (w2.setCell ⟨b, 0, none⟩ (.slice va (n + 1) vc)) b B (.slice va (n + 1) vc) (acc ++ [(x, y, up)]) ∧ Gr2 b (Value.slice ca n cc).ownBlock w (w2.setCell ⟨b, 0, none⟩ (.slice va (n + 1) vc)) ∧ ∀ g, (Value.slice va (n + 1) vc).ownBlock = some g → (Value.slice ca n cc).ownBlock = some g ∨ w.heap.size ≤ g) := by
    refine ⟨⟨by rw [heap_setCell_same _ _ _ _ _ _ hbox2]; rfl, ?_⟩, hg2.set 0 _, hl2⟩
    rw [← HLn.out, ← HV.out]
    exact own_keep hown2 fun g hg => heap_setCell_other _ _ _ _ (fun e => hvb (by simp at e; rw [← e]; exact hg))
  clear hown2 hgrow2 hloc hg2 hl2 hbox2 hvb hrow hbox hs2 c0' c0
  go_wp2
  go_ret
  exact ⟨_, by first | rfl | (rw [HW1.out]), HE.out.1, HE.out.2.1, HE.out.2.2⟩

def WalkI (nv : Nat → Int) (tv : Nat → ByteArray) (c2 : Nat → Value) (kids : Nat → List Nat) (f k : Nat) : Prop := ∀ (w : World) (lo hi b B : Nat) (u : Int) (sl cv : Value) (acc : List Vn) (up : Int), R4 (fun k => .int .i64 (nv k)) (fun k => .string (tv k)) c2 kids lo hi f w k sl → hi ≤ w.heap.size → B ≤ w.heap.size → LB w b B cv acc → (flz nv tv kids f acc k up).length ≤ 1000 → ¬ (lo ≤ b ∧ b < hi) → Hid (∀ g, cv.ownBlock = some g → ¬ (lo ≤ g ∧ g < hi)) →
  Calls Tryd.prog 53 #[.agg #[.int .i64 (nv k), .string (tv k), .int .i64 u, sl], .int .i64 up, .func (.func 54) #[] #[.pointer (some ⟨b, 0, none⟩)]] w fun e w' => ∃ cv', e = .returned (.tuple #[]) ∧ LB w' b B cv' (flz nv tv kids f acc k up) ∧ Gr2 b cv.ownBlock w w' ∧ ∀ g, cv'.ownBlock = some g → cv.ownBlock = some g ∨ w.heap.size ≤ g

set_option maxRecDepth 100000 in
set_option maxHeartbeats 3200000 in
theorem implWalk (nv : Nat → Int) (tv : Nat → ByteArray) (uv : Nat → Int) (kids : Nat → List Nat) (h100 : ∀ k, (kids k).length ≤ 1000) : ∀ (f k : Nat), WalkI nv tv (fun k => .int .i64 (uv k)) kids f k := by
  intro f
  induction f with
  | zero => intro k w lo hi b B u sl cv acc up h; exact h.elim
  | succ f ih =>
    intro k w lo hi b B u sl cv acc up h hhi hB hlb hlen hbn hdis
    have IH : Hid (∀ k, WalkI nv tv (fun k => .int .i64 (uv k)) kids f k) := ih
    clear ih
    obtain ⟨a, cap, rfl, hcap, hh⟩ := h
    have hK := h100 k
    have HH : Hid (∀ j (h : j < (kids k).length), ∃ g off sl', a = some ⟨g, off, none⟩ ∧ lo ≤ g ∧ g < hi ∧
      w.cell? ⟨g, off + j * 4, none⟩ = some (.int .i64 (nv (kids k)[j])) ∧ w.cell? ⟨g, off + j * 4 + 1, none⟩ = some (.string (tv (kids k)[j])) ∧ w.cell? ⟨g, off + j * 4 + 2, none⟩ = some (.int .i64 (uv (kids k)[j])) ∧ w.cell? ⟨g, off + j * 4 + 3, none⟩ = some sl' ∧ R4 (fun k => .int .i64 (nv k)) (fun k => .string (tv k)) (fun k => .int .i64 (uv k)) kids lo hi f w (kids k)[j] sl') := hh
    have HFL : Hid (flz nv tv kids (f + 1) acc k up = (kids k).foldl (fun a j => flz nv tv kids f a j (acc.length : Int)) (acc ++ [(nv k, tv k, up)])) := rfl
    rw [HFL.out] at hlen ⊢
    obtain ⟨K, hKe⟩ : ∃ K, kids k = K := ⟨_, rfl⟩
    rw [hKe] at HH hK hcap hlen ⊢
    obtain ⟨x, hx⟩ : ∃ x, nv k = x := ⟨_, rfl⟩
    obtain ⟨y, hy⟩ : ∃ y, tv k = y := ⟨_, rfl⟩
    rw [hx, hy] at hlen ⊢
    obtain ⟨n, hn⟩ : ∃ n, acc.length = n := ⟨_, rfl⟩
    obtain ⟨A0, hA0⟩ : ∃ A0, acc ++ [(x, y, up)] = A0 := ⟨_, rfl⟩
    obtain ⟨G, hGd⟩ : ∃ G : List Vn → Nat → List Vn, (fun (a : List Vn) (j : Nat) => flz nv tv kids f a j (n : Int)) = G := ⟨_, rfl⟩
    have HG : Hid (∀ a j, G a j = flz nv tv kids f a j (n : Int)) := fun a j => by rw [← hGd]
    have HGE : Hid (∀ a j, a.length ≤ (G a j).length) := fun a j => by rw [HG.out]; exact flz_ge nv tv kids f a j _
    rw [hA0, hn, hGd] at hlen ⊢
    have HPL : Hid (∀ m, ((K.take m).foldl G A0).length ≤ 1000) := fun m => Nat.le_trans (fold_part HGE.out K m A0) hlen
    have hA0b : A0.length ≤ 1000 := by have := HPL.out 0; simpa using this
    have hnb : n ≤ 1000 := by rw [← hA0] at hA0b; simp at hA0b; omega
    have HVS : Hid (∀ o, Calls Tryd.prog 54 #[.agg #[.int .i64 x, .string y, .int .i64 u], .int .i64 up, .pointer (some ⟨b, 0, none⟩)] (w.alloc o) fun e w' => ∃ cv', e = .returned (.int .i64 (n : Int)) ∧ LB w' b B cv' A0 ∧ Gr2 b cv.ownBlock (w.alloc o) w' ∧ ∀ g, cv'.ownBlock = some g → cv.ownBlock = some g ∨ (w.alloc o).heap.size ≤ g) := fun o => by
      have := implVisit x u y up b B cv acc (w.alloc o) (hlb.alloc o) (by simp; omega) (by omega)
      rw [hA0, hn] at this
      exact this
    have hbw := lt_of_block hlb.box
    have HCO : Hid (∀ g, cv.ownBlock = some g → ¬ (lo ≤ g ∧ g < hi)) := hdis
    have HCW : Hid (∀ g, cv.ownBlock = some g → g < w.heap.size) := fun g e => by
      obtain ⟨cu, hcu, _⟩ := own_at hlb.row e
      exact lt_of_block hcu
    obtain ⟨co, hco⟩ : ∃ co, cv.ownBlock = co := ⟨_, rfl⟩
    rw [hco] at HVS HCO HCW ⊢
    clear hx hy hKe hh HFL hA0 hn hGd h100 hlen hdis hlb hco
    go_enter Tryd.func53, Tryd.ntmps53
    go_wp2_with fail
    refine (HVS.out _).mono ?_
    rintro e w2 ⟨cv2, rfl, hlb2, hgr2, hl2⟩
    have hs2 := hgr2.size
    simp at hs2
    obtain ⟨z, hz⟩ : ∃ z, w.heap.size = z := ⟨_, rfl⟩
    have q0 : w2.heap[z]? = some (.cells #[.int .i64 x, .string y, .int .i64 u, .slice a K.length cap] 69 (0, 0)) := (hgr2.block z (by simp; omega) (by omega) (fun e => by have := HCW.out z e.symm; omega)).trans (new_blk hz)
    have a3 := (cell_of_block q0 3).trans (show _ = some (Value.slice a K.length cap) from rfl)
    rw [← hz] at a3
    have hg2 : Gr2 b co w w2 := (((Gr2.refl b co w).alloc _)).trans hgr2 (fun g e => Or.inl e)
    have HL2 : Hid (∀ g, cv2.ownBlock = some g → co = some g ∨ z ≤ g) := fun g hg => by
      rcases hl2 g hg with e | e
      · exact Or.inl e
      · simp at e; exact Or.inr (by omega)
    have HKP : Hid (∀ W, Gr2 b co w W → ∀ g, lo ≤ g → g < hi → W.heap[g]? = w.heap[g]?) := fun W hW g g1 g2 => hW.block g (by omega) (fun e => hbn ⟨by omega, by omega⟩) (fun e => HCO.out g e.symm ⟨g1, g2⟩)
    have HZ : Hid (w.heap.size = z) := hz
    have hzl2 : z + 1 ≤ w2.heap.size := by omega
    clear HVS hgr2 hl2 q0 hs2 hz
    go_wp2
    go_loopw [17] (fun i wr => ∃ (m : Nat) (A : List Vn) (v : Value), m ≤ K.length ∧ i = .int .i64 (m : Int) ∧ Hid (A = (K.take m).foldl G A0) ∧ LB wr b B v A ∧ Gr2 b co w wr ∧ Hid (∀ g, v.ownBlock = some g → co = some g ∨ z ≤ g) ∧ z + 1 ≤ wr.heap.size) (fun i _ => K.length - (intOf i).toNat)
    case atStart => exact ⟨0, A0, cv2, by omega, rfl, by simp [Hid], hlb2, hg2, HL2, hzl2⟩
    case round =>
      clear hlb2 hg2 HL2 hzl2 a3
      obtain ⟨m, A, v, hm, rfl, hA, hlb, hgr, hlc, hsz⟩ := hrel
      have hz := HZ.out
      by_cases hlt : m < K.length
      · have hltI : (m : Int) < (K.length : Int) := by omega
        obtain ⟨g, off, sl', rfl, hg1, hg2, c0, c1, c2, c3, htr⟩ := HH.out m hlt
        have hkg := HKP.out wr hgr g hg1 hg2
        obtain ⟨sa, sn, sc, rfl⟩ := R4.form htr
        have HST : Hid ((K.take (m + 1)).foldl G A0 = G A K[m]) := by
          unfold Hid
          rw [List.take_succ_eq_append_getElem hlt, List.foldl_append, ← hA.out]
          rfl
        obtain ⟨km, hkm⟩ : ∃ km, K[m] = km := ⟨_, rfl⟩
        rw [hkm] at c0 c1 c2 htr HST
        have d0 : wr.cell? ⟨g, off + m * 4, none⟩ = some (.int .i64 (nv km)) := (cell_heap hkg _).trans c0
        have d1 : wr.cell? ⟨g, off + m * 4 + 1, none⟩ = some (.string (tv km)) := (cell_heap hkg _).trans c1
        have d2 : wr.cell? ⟨g, off + m * 4 + 2, none⟩ = some (.int .i64 (uv km)) := (cell_heap hkg _).trans c2
        have d3 : wr.cell? ⟨g, off + m * 4 + 3, none⟩ = some (.slice sa sn sc) := (cell_heap hkg _).trans c3
        obtain ⟨m1, hm1⟩ : ∃ m1, m + 1 = m1 := ⟨_, rfl⟩
        have hpl := HPL.out (m + 1)
        rw [HST.out] at hpl
        rw [hm1] at HST
        have HM1 : Hid (m + 1 = m1) := hm1
        have hml : m1 ≤ K.length := by omega
        have HIH : Hid (∀ o, Calls Tryd.prog 53 #[.agg #[.int .i64 (nv km), .string (tv km), .int .i64 (uv km), .slice sa sn sc], .int .i64 (n : Int), .func (.func 54) #[] #[.pointer (some ⟨b, 0, none⟩)]] (wr.alloc o) fun e w' => ∃ cv', e = .returned (.tuple #[]) ∧ LB w' b B cv' (G A km) ∧ Gr2 b v.ownBlock (wr.alloc o) w' ∧ ∀ g, cv'.ownBlock = some g → v.ownBlock = some g ∨ (wr.alloc o).heap.size ≤ g) := fun o => by
          rw [HG.out] at hpl ⊢
          refine IH.out km (wr.alloc o) lo hi b B (uv km) _ v A (n : Int) (R4.keep htr fun g g1 g2 => ?_) (by simp; omega) (by simp; omega) (hlb.alloc _) hpl hbn (fun g hg => ?_)
          · exact (Below.heap_alloc _ _ _ (by omega)).trans (HKP.out wr hgr g g1 g2)
          · rcases hlc.out g hg with e | e
            · exact HCO.out g e
            · omega
        obtain ⟨A1, hA1⟩ : ∃ A1, G A km = A1 := ⟨_, rfl⟩
        rw [hA1] at HIH HST
        have hgw : Hid (∀ o, Gr2 b co w (wr.alloc o)) := fun o => hgr.alloc o
        have hszH : Hid (z + 1 ≤ wr.heap.size) := hsz
        clear c0 c1 c2 c3 hkg hkm hm1 hA1 htr hpl hz hlb hgr hA
        go_wp2_with fail
        refine (HIH.out _).mono ?_
        rintro e w5 ⟨cv', rfl, hlb5, hgr5, hloc5⟩
        have hs5 := hgr5.size
        simp at hs5
        have hz := HZ.out
        have hg5 : Gr2 b co w w5 := (hgw.out _).trans hgr5 (fun g e => by
          rcases hlc.out g e with e1 | e1
          · exact Or.inl e1
          · exact Or.inr (by omega))
        have hl5 : Hid (∀ g, cv'.ownBlock = some g → co = some g ∨ z ≤ g) := fun g hg => by
          rcases hloc5 g hg with e | e
          · exact hlc.out g e
          · simp at e; exact Or.inr (by omega)
        have hz5 : z + 1 ≤ w5.heap.size := by omega
        clear HIH hgr5 hloc5 hgw hlc d0 d1 d2 d3 hz
        go_wp2
        go_roundw
        case rel => exact ⟨m1, A1, cv', hml, by rw [← HM1.out]; go_num, HST.out.symm, hlb5, hg5, hl5, hz5⟩
        case measure => have := HM1.out; simp [intOf]; omega
      · obtain rfl : m = K.length := by omega
        have hltI : ¬ (K.length : Int) < (K.length : Int) := by omega
        have hAe : Hid (A = K.foldl G A0) := by have := hA.out; rw [List.take_length] at this; exact this
        clear hA hz
        go_wp2
        refine bodyPost_end (v := .tuple #[]) (by simp [results, Tryd.results53, go_sem]) rfl ?_
        rw [← hAe.out]
        exact ⟨rfl, v, hlb, hgr, fun g hg => by rw [HZ.out]; exact hlc.out g hg⟩

end Go.Proofs.YtlimlpidbjkofaaDoor

namespace Go.Proofs.YtlimlpidbjkofaaDoor
open Go.ChangeShapes Go.WideShapes Go.ChangeAt Go.RowKit

theorem zk_take (L : List Nd) (p : Nat) : ∃ c, zk L p = (kidsOf L p).take c := by
  unfold zk tk
  split
  · exact ⟨0, rfl⟩
  · split
    · exact ⟨(kidsOf L p).length, by simp⟩
    · split
      · exact ⟨1, rfl⟩
      · split
        · exact ⟨0, rfl⟩
        · exact ⟨0, rfl⟩
theorem getD_le {K : List Nat} {e : Nat} (h : ∀ j ∈ K, j < e) (m : Nat) : K.getD m e ≤ e := by
  rw [List.getD_eq_getElem?_getD]
  rcases Nat.lt_or_ge m K.length with h' | h'
  · rw [List.getElem?_eq_getElem h']
    exact Nat.le_of_lt (h _ (List.getElem_mem h'))
  · rw [List.getElem?_eq_none h']
    exact Nat.le_refl _
theorem zlen (nv : Nat → Int) (tv : Nat → ByteArray) {L : List Nd} (hU : ups L) : ∀ (f : Nat) (acc : List Vn) (p e : Nat) (up : Int), isEnd L p e → (flz nv tv (zk L) f acc p up).length ≤ acc.length + (e - p)
  | 0, acc, p, e, _, h => by unfold flz; omega
  | f + 1, acc, p, e, up, h => by
    unfold flz
    obtain ⟨c, hc⟩ := zk_take L p
    rw [hc]
    have hpe := h.1
    have hin := kids_in hU h
    have key : ∀ m, p + 1 ≤ (kidsOf L p).getD m e ∧ (((kidsOf L p).take m).foldl (fun a j => flz nv tv (zk L) f a j (acc.length : Int)) (acc ++ [(nv p, tv p, up)])).length ≤ acc.length + 1 + ((kidsOf L p).getD m e - (p + 1)) := by
      intro m
      induction m with
      | zero =>
        refine ⟨?_, by simp⟩
        rw [List.getD_eq_getElem?_getD]
        rcases Nat.lt_or_ge 0 (kidsOf L p).length with h' | h'
        · rw [List.getElem?_eq_getElem h']
          have := List.getElem_mem h'
          unfold kidsOf at this
          have h2 := (List.mem_filter.1 this).2
          simp at h2
          simp only [Option.getD_some]
          unfold kidsOf
          omega
        · rw [List.getElem?_eq_none h']
          simp only [Option.getD_none]
          omega
      | succ m ih =>
        obtain ⟨i1, i2⟩ := ih
        rcases Nat.lt_or_ge m (kidsOf L p).length with h' | h'
        · have hpe2 := parts_end hU h m h'
          have e1 : (kidsOf L p).getD m e = (kidsOf L p)[m] := by rw [List.getD_eq_getElem?_getD, List.getElem?_eq_getElem h']; rfl
          have e2 : endAt (kidsOf L p) e m = (kidsOf L p).getD (m + 1) e := rfl
          have h3 := hpe2.1
          rw [e2] at h3
          rw [e1] at i1 i2
          refine ⟨by omega, ?_⟩
          rw [List.take_succ_eq_append_getElem h', List.foldl_append, List.foldl_cons, List.foldl_nil]
          have h4 := zlen nv tv hU f (((kidsOf L p).take m).foldl (fun a j => flz nv tv (zk L) f a j (acc.length : Int)) (acc ++ [(nv p, tv p, up)])) _ _ (acc.length : Int) hpe2
          rw [e2] at h4
          omega
        · have e1 : (kidsOf L p).getD m e = e := by rw [List.getD_eq_getElem?_getD, List.getElem?_eq_none h']; rfl
          have e2 : (kidsOf L p).getD (m + 1) e = e := by rw [List.getD_eq_getElem?_getD, List.getElem?_eq_none (by omega)]; rfl
          rw [e1] at i1 i2
          rw [e2]
          refine ⟨i1, ?_⟩
          have e3 : (kidsOf L p).take (m + 1) = (kidsOf L p).take m := by rw [List.take_of_length_le (by omega), List.take_of_length_le h']
          rw [e3]
          exact i2
    have h5 := (key c).2
    have h6 := getD_le hin c
    omega

/-- The value of noughts. -/
def zr (L : List Nd) : List Vn := flz (fun _ => 0) (fun _ => ⟨#[]⟩) (zk L) L.length [] 0 (-1)
theorem zr_len {L : List Nd} (h : goodT L = true) : (zr L).length ≤ 40 := by
  have hU := ups_good h
  have h1 := zlen (fun _ => 0) (fun _ => ⟨#[]⟩) hU L.length [] 0 L.length (-1) (isEnd_whole hU)
  have h2 := hU.2.1
  unfold zr
  simp at h1
  omega
theorem zk_100 {L : List Nd} (h : goodT L = true) (k : Nat) : (zk L k).length ≤ 1000 := by
  obtain ⟨c, hc⟩ := zk_take L k
  have h1 := kids_le L k
  have h2 := (ups_good12 h).2.1
  rw [hc, List.length_take]
  omega

set_option maxRecDepth 100000 in
set_option maxHeartbeats 1600000 in
theorem implListOf (L : List Nd) (hG : goodT L = true) (w : World) (lo hi f : Nat) (u : Int) (sl : Value) (h : ZI L lo hi f w 0 sl) (hhi : hi ≤ w.heap.size) (hlen : (flz (fun _ => 0) (fun _ => ⟨#[]⟩) (zk L) f [] 0 (-1)).length ≤ 1000) :
    Calls Tryd.prog 38 #[.agg #[.int .i64 0, .string ⟨#[]⟩, .int .i64 u, sl]] w fun e w' => ∃ cv, e = .returned cv ∧ w'.ownsRow w.heap.size 62 3 cv (flz (fun _ => 0) (fun _ => ⟨#[]⟩) (zk L) f [] 0 (-1)).length (vcs (flz (fun _ => 0) (fun _ => ⟨#[]⟩) (zk L) f [] 0 (-1))) ∧ Below w.heap.size w w' := by
  obtain ⟨sa, sn, sc, rfl⟩ := R4.form h
  have HW : Hid (∀ W, Below w.heap.size w W → W.heap[w.heap.size + 1]? = some (.cells #[.slice none 0 0] 29 (0, 0)) → Calls Tryd.prog 53 #[.agg #[.int .i64 0, .string ⟨#[]⟩, .int .i64 u, .slice sa sn sc], .int .i64 (-1), .func (.func 54) #[] #[.pointer (some ⟨w.heap.size + 1, 0, none⟩)]] W fun e w' => ∃ cv', e = .returned (.tuple #[]) ∧ LB w' (w.heap.size + 1) w.heap.size cv' (flz (fun _ => 0) (fun _ => ⟨#[]⟩) (zk L) f [] 0 (-1)) ∧ Gr2 (w.heap.size + 1) (Value.slice none 0 0).ownBlock W w' ∧ ∀ g, cv'.ownBlock = some g → (Value.slice none 0 0).ownBlock = some g ∨ W.heap.size ≤ g) := fun W hW hb => by
    exact implWalk (fun _ => 0) (fun _ => ⟨#[]⟩) (fun _ => 0) (zk L) (zk_100 hG) f 0 W lo hi (w.heap.size + 1) w.heap.size u (.slice sa sn sc) (.slice none 0 0) [] (-1) (R4.below h hW hhi) (Nat.le_trans hhi hW.size) hW.size ⟨hb, World.ownsRow_nil _ _ _ _⟩ hlen (by omega) (fun g e => by simp [Value.ownBlock] at e)
  generalize flz (fun _ => 0) (fun _ => ⟨#[]⟩) (zk L) f [] 0 (-1) = R at *
  have HAL : Hid (∀ o1 o2, Below w.heap.size w ((w.alloc o1).alloc o2)) := fun o1 o2 => ((Below.refl _ _).alloc (Nat.le_refl _) _).alloc (by simp) _
  have HNB : Hid (∀ o1, ((w.alloc o1).alloc (.cells #[.slice none 0 0] 29)).heap[w.heap.size + 1]? = some (.cells #[.slice none 0 0] 29 (0, 0))) := fun o1 => new_blk (by simp)
  clear h hhi hlen
  go_enter Tryd.func38, Tryd.ntmps38
  go_wp2_with fail
  refine (HW.out _ (HAL.out _ _) (HNB.out _)).mono ?_
  rintro e w1 ⟨cv, rfl, hlb, hgr, hl⟩
  have hbx := hlb.box
  have hb1 : Below w.heap.size w w1 := ⟨hgr.os, hgr.tape, hgr.output, by have := hgr.size; simp at this; omega, fun g hg => (hgr.block g (by simp; omega) (by omega) (by simp [Value.ownBlock])).trans ((HAL.out _ _).block g hg)⟩
  have c0 : w1.cell? ⟨w.heap.size + 1, 0, none⟩ = some cv := (cell_of_block hbx 0).trans rfl
  obtain ⟨va, vc, rfl⟩ := ownsRow_shape hlb.row
  have hr : Hid (w1.ownsRow w.heap.size 62 3 (.slice va R.length vc) R.length (vcs R)) := hlb.row
  clear HW HAL HNB hgr hl hlb hbx
  go_wp2
  go_ret
  exact ⟨_, rfl, hr.out, hb1⟩

theorem own_lower {w : World} {B B' : Nat} {e : TypeId} {size n : Nat} {v : Value} {xs : List Value} (h : w.ownsRow B e size v n xs) (hb : B' ≤ B) : w.ownsRow B' e size v n xs := by
  refine ⟨h.1, ?_⟩
  rcases h.2 with h2 | ⟨g, cap, cur, e1, e2, r⟩
  · exact .inl h2
  · exact .inr ⟨g, cap, cur, e1, by omega, r⟩
/-- What is told: the value, in memory of its own, and true; or none, and false. -/
def zoR (L : List Nd) : List Vn := if goodT L = true then zr L else []
def ToldZ (L : List Nd) (w w' : World) (e : Ending) : Prop := ∃ cv, e = .returned (.tuple #[cv, .bool (goodT L)]) ∧ w'.ownsRow w.heap.size 62 3 cv (zoR L).length (vcs (zoR L)) ∧ Below w.heap.size w w'

set_option maxRecDepth 100000 in
set_option maxHeartbeats 1600000 in
theorem implZeroOf (a : Option Addr) (b off cap : Nat) (L : List Nd) (w : World) (ha : Hid (L ≠ [] → a = some ⟨b, off, none⟩ ∧ b < w.heap.size)) (hL : Hid (ndAt w b off L)) (hlen : L.length ≤ 1048576) (hT : Hid (Tabs w)) :
    Calls Tryd.prog 16 #[.slice a L.length cap] w fun e w' => ToldZ L w w' e := by
  have HG := implGoodTree a b off cap L w ha hL hlen hT
  obtain ⟨G, hG⟩ : ∃ G, Hid (goodT L = G) := ⟨_, rfl⟩
  rw [hG.out] at HG
  have HZO : Hid (∀ w' e cv, e = .returned (.tuple #[cv, .bool G]) → w'.ownsRow w.heap.size 62 3 cv (zoR L).length (vcs (zoR L)) → Below w.heap.size w w' → ToldZ L w w' e) := fun w' e cv h1 h2 h3 => ⟨cv, by rw [hG.out]; exact h1, h2, h3⟩
  cases G with
  | false =>
    have HE : Hid (zoR L = []) := by unfold Hid zoR; rw [hG.out]; rfl
    clear hL ha
    go_enter Tryd.func16, Tryd.ntmps16
    go_wp2_with fail
    refine HG.mono ?_
    rintro e w1 ⟨x, y, u, sa, sn, sc, rfl, _, hb1⟩
    have hbA : Hid (∀ o, Below w.heap.size w (w1.alloc o)) := fun o => hb1.alloc hb1.size o
    clear HG hb1
    go_wp2
    go_ret2
    exact HZO.out _ _ _ rfl (by rw [HE.out]; exact World.ownsRow_nil _ _ _ _) (hbA.out _)
  | true =>
    have HE : Hid (zoR L = zr L) := by unfold Hid zoR; rw [hG.out]; rfl
    have h0 : 0 < L.length := (ups_good12 hG.out).1
    have HZ : Hid (∀ (W : World) (lo hi : Nat) (u : Int) (sl : Value), RN L lo hi L.length W 0 sl → hi ≤ W.heap.size → Calls Tryd.prog 39 #[.agg #[.int .i64 (kdAt L 0), .int .i64 (nAt L 0), .int .i64 u, sl]] W fun e w' => ∃ sl', e = .returned (.agg #[.int .i64 0, .string ⟨#[]⟩, .int .i64 0, sl']) ∧ ZI L W.heap.size w'.heap.size L.length w' 0 sl' ∧ Below W.heap.size W w') := implZero L hG.out L.length 0 h0
    have HLO : Hid (∀ (W : World) (lo hi : Nat) (sl : Value), ZI L lo hi L.length W 0 sl → hi ≤ W.heap.size → Calls Tryd.prog 38 #[.agg #[.int .i64 0, .string ⟨#[]⟩, .int .i64 0, sl]] W fun e w' => ∃ cv, e = .returned cv ∧ W.heap.size ≤ W.heap.size ∧ w'.ownsRow W.heap.size 62 3 cv (zr L).length (vcs (zr L)) ∧ Below W.heap.size W w') := fun W lo hi sl h1 h2 => by
      have h9 := zr_len hG.out
      refine (implListOf L hG.out W lo hi L.length 0 sl h1 h2 (by have : (zr L).length ≤ 1000 := by omega
                                                                  exact this)).mono ?_
      rintro e w' ⟨cv, rfl, h3, h4⟩
      exact ⟨cv, rfl, Nat.le_refl _, h3, h4⟩
    clear hL ha h0
    go_enter Tryd.func16, Tryd.ntmps16
    go_wp2_with fail
    refine HG.mono ?_
    rintro e w1 ⟨x, y, u, sa, sn, sc, rfl, hx, hb1⟩
    obtain ⟨rfl, rfl, rfl, hrn⟩ := hx.out (by first | exact hG.out | trivial)
    obtain ⟨x, hx⟩ : ∃ x, kdAt L 0 = x := ⟨_, rfl⟩
    obtain ⟨y, hy⟩ : ∃ y, nAt L 0 = y := ⟨_, rfl⟩
    obtain ⟨u, hu⟩ : ∃ u, upAt L 0 = u := ⟨_, rfl⟩
    rw [hx, hy] at HZ
    rw [hx, hy, hu]
    have HZ2 : Hid (∀ o, Calls Tryd.prog 39 #[.agg #[.int .i64 x, .int .i64 y, .int .i64 u, .slice sa sn sc]] (w1.alloc o) fun e w' => ∃ sl', e = .returned (.agg #[.int .i64 0, .string ⟨#[]⟩, .int .i64 0, sl']) ∧ ZI L (w1.alloc o).heap.size w'.heap.size L.length w' 0 sl' ∧ Below (w1.alloc o).heap.size (w1.alloc o) w') := fun o => HZ.out (w1.alloc o) _ _ u _ (R4.below hrn ((Below.refl _ _).alloc (Nat.le_refl _) o) (Nat.le_refl _)) (by simp)
    have hbA : Hid (∀ o, Below w.heap.size w (w1.alloc o)) := fun o => hb1.alloc hb1.size o
    clear HG hb1 HZ hx hy hu hrn
    go_wp2_with fail
    refine (HZ2.out _).mono ?_
    rintro e w2 ⟨sl', rfl, hzi, hb2⟩
    have hb2' : Below w.heap.size w w2 := (hbA.out _).trans (hb2.mono (hbA.out _).size)
    have HL2 := HLO.out w2 _ _ sl' hzi (Nat.le_refl _)
    obtain ⟨ea, en, ec, rfl⟩ := R4.form hzi
    clear HZ2 HLO hbA hzi hb2
    go_wp2_with fail
    refine HL2.mono ?_
    rintro e w3 ⟨cv, rfl, _, hown, hb3⟩
    have hown' : Hid (w3.ownsRow w.heap.size 62 3 cv (zr L).length (vcs (zr L))) := own_lower hown hb2'.size
    have hb3' : Below w.heap.size w w3 := bel_z hb2' hb3
    obtain ⟨va, vc, rfl⟩ := ownsRow_shape hown
    clear HL2 hown hb3 hb2'
    go_wp2
    go_ret2
    exact HZO.out _ _ _ rfl (by rw [HE.out]; exact hown'.out) hb3'

set_option maxRecDepth 100000 in
set_option maxHeartbeats 1600000 in
theorem specZeroOf (a : Option Addr) (b off cap : Nat) (L : List Nd) (w : World) (ha : Hid (L ≠ [] → a = some ⟨b, off, none⟩ ∧ b < w.heap.size)) (hL : Hid (ndAt w b off L)) (hlen : L.length ≤ 1048576) :
    Calls Tryd.prog 15 #[.slice a L.length cap] w fun e w' => ToldZ L w w' e := by
  have HG := specGood a b off cap L w ha hL hlen
  obtain ⟨G, hG⟩ : ∃ G, Hid (goodT L = G) := ⟨_, rfl⟩
  rw [hG.out] at HG
  have HZO : Hid (∀ w' e cv, e = .returned (.tuple #[cv, .bool G]) → w'.ownsRow w.heap.size 62 3 cv (zoR L).length (vcs (zoR L)) → Below w.heap.size w w' → ToldZ L w w' e) := fun w' e cv h1 h2 h3 => ⟨cv, by rw [hG.out]; exact h1, h2, h3⟩
  cases G with
  | false =>
    have HE : Hid (zoR L = []) := by unfold Hid zoR; rw [hG.out]; rfl
    clear hL ha
    go_enter Tryd.func15, Tryd.ntmps15
    go_wp2_with fail
    refine HG.mono ?_
    rintro e w1 ⟨rfl, hb1⟩
    clear HG
    go_wp2
    go_ret2
    exact HZO.out _ _ _ rfl (by rw [HE.out]; exact World.ownsRow_nil _ _ _ _) hb1
  | true =>
    have HE : Hid (zoR L = zr L) := by unfold Hid zoR; rw [hG.out]; rfl
    have h40 : 1 ≤ L.length ∧ L.length ≤ 40 := ⟨(ups_good12 hG.out).1, (ups_good12 hG.out).2.1⟩
    obtain ⟨rfl, hb⟩ := ha.out (fun h => by simp [h] at h40)
    have HT1 : Hid (∀ W, Below w.heap.size w W → Calls Tryd.prog 28 #[.slice (some ⟨b, off, none⟩) L.length cap, .int .i64 0] W fun e w' => ∃ sl, e = .returned (.agg #[.int .i64 (kdAt L 0), .int .i64 (nAt L 0), sl]) ∧ S3 L W.heap.size w'.heap.size L.length w' 0 sl ∧ Below W.heap.size W w') := fun W hW => specTreeC L h40.2 b off cap L.length 0 (by omega) (by omega) W (Nat.lt_of_lt_of_le hb hW.size) (hL.out.below hW hb)
    have HZ : Hid (∀ (W : World) (lo hi : Nat) (sl : Value), S3 L lo hi L.length W 0 sl → hi ≤ W.heap.size → Calls Tryd.prog 36 #[.agg #[.int .i64 (kdAt L 0), .int .i64 (nAt L 0), sl]] W fun e w' => ∃ sl', e = .returned (.agg #[.int .i64 0, .string ⟨#[]⟩, sl']) ∧ ZS L W.heap.size w'.heap.size L.length w' 0 sl' ∧ Below W.heap.size W w') := specZero L hG.out L.length 0 (by omega)
    have hzl := zr_len hG.out
    have HFE : Hid (flc (fun _ => 0) (fun _ => ⟨#[]⟩) (zk L) L.length [] 0 (-1) = zr L) := flc_flz _ _ _ _ _ _ _ (Nat.le_trans hzl (by omega))
    have HFL : Hid (∀ (W : World) (lo hi : Nat) (sl : Value), ZS L lo hi L.length W 0 sl → hi ≤ W.heap.size → Calls Tryd.prog 35 #[.slice none 0 0, .agg #[.int .i64 0, .string ⟨#[]⟩, sl], .int .i64 (-1)] W fun e w' => ∃ cv', e = .returned cv' ∧ w'.ownsRow W.heap.size 62 3 cv' (zr L).length (vcs (zr L)) ∧ Below W.heap.size W w') := fun W lo hi sl h1 h2 => by
      refine (specFlat (fun _ => 0) (fun _ => ⟨#[]⟩) (zk L) (zk_100 hG.out) L.length 0 W lo hi W.heap.size sl (.slice none 0 0) [] (-1) h1 h2 (Nat.le_refl _) (World.ownsRow_nil _ _ _ _) (by simp) (fun g e => by simp [Value.ownBlock] at e)).mono ?_
      rintro e w' ⟨cv', rfl, h3, h4, _⟩
      rw [HFE.out] at h3
      exact ⟨cv', rfl, h3, h4.os, h4.tape, h4.output, h4.size, fun g hg => h4.block g hg (by simp [Value.ownBlock])⟩
    obtain ⟨x, hx⟩ : ∃ x, kdAt L 0 = x := ⟨_, rfl⟩
    obtain ⟨y, hy⟩ : ∃ y, nAt L 0 = y := ⟨_, rfl⟩
    rw [hx, hy] at HZ HT1
    clear hL ha hx hy h40 hzl HFE
    go_enter Tryd.func15, Tryd.ntmps15
    go_wp2_with fail
    refine HG.mono ?_
    rintro e w1 ⟨rfl, hb1⟩
    have H1 := HT1.out w1 hb1
    clear HG HT1
    go_wp2_with fail
    refine H1.mono ?_
    rintro e w2 ⟨sl, rfl, hs3, hb2⟩
    have H2 := HZ.out w2 _ _ sl hs3 (Nat.le_refl _)
    obtain ⟨sa, sn, sc, rfl⟩ := R3.form hs3
    have hb2' := bel_z hb1 hb2
    clear H1 HZ hs3 hb2 hb1
    go_wp2_with fail
    refine H2.mono ?_
    rintro e w3 ⟨sl', rfl, hzs, hb3⟩
    have H3 := HFL.out w3 _ _ sl' hzs (Nat.le_refl _)
    obtain ⟨ea, en, ec, rfl⟩ := R3.form hzs
    have hb3' := bel_z hb2' hb3
    clear H2 HFL hzs hb3 hb2'
    go_wp2_with fail
    refine H3.mono ?_
    rintro e w4 ⟨cv, rfl, hown, hb4⟩
    have hown' : Hid (w4.ownsRow w.heap.size 62 3 cv (zr L).length (vcs (zr L))) := own_lower hown hb3'.size
    have hb4' : Below w.heap.size w w4 := bel_z hb3' hb4
    obtain ⟨va, vc, rfl⟩ := ownsRow_shape hown
    clear H3 hown hb4 hb3'
    go_wp2
    go_ret2
    exact HZO.out _ _ _ rfl (by rw [HE.out]; exact hown'.out) hb4'

end Go.Proofs.YtlimlpidbjkofaaDoor

namespace Go.Proofs.YtlimlpidbjkofaaDoor
open Go.ChangeShapes Go.WideShapes Go.ChangeAt Go.RowKit Go.PlainAid

theorem ndAt_nil {w w' : World} {b off : Nat} {L : List Nd} (h : Below w.heap.size w w') (hb : L ≠ [] → b < w.heap.size) (hL : ndAt w b off L) : ndAt w' b off L := by
  by_cases e : L = []
  · subst e; intro i hi; simp at hi
  · exact hL.below h (hb e)

def dg (k : Nat) : UInt8 := UInt8.ofNat (48 + k % 10)
/-- The text of a mark. -/
def mtl : Nat → Nat → ByteArray → ByteArray
  | 0, _, o => o
  | f + 1, k, o => if k = 0 then o else mtl f (k / 10) (⟨#[dg k]⟩ ++ o)
def mt (k : Nat) : ByteArray := ⟨#[109]⟩ ++ mtl 20 k ⟨#[]⟩
theorem mtl_end (f : Nat) (o : ByteArray) : mtl f 0 o = o := by cases f <;> simp [mtl]
theorem mtl_more (f k : Nat) (o : ByteArray) (h : 0 < k) : mtl (f + 1) k o = mtl f (k / 10) (⟨#[dg k]⟩ ++ o) := by
  simp only [mtl]; rw [if_neg (by omega)]
theorem digit_string (k : Nat) (N : Nat) (W : World) (hc : W.cell? ⟨N, 0, none⟩ = some (.int .u8 (48 + (k : Int) % 10))) : (convert 98 9 (.slice (some ⟨N, 0, none⟩) 1 1)).run Tryd.prog W = .ok (.string ⟨#[dg k]⟩) W := by
  have H := run_convert_bytes_back (P := Tryd.prog) W 98 9 5 ⟨N, 0, none⟩ 1 [dg k] Tryd.underlying98 Tryd.underlying5 Tryd.underlying9 (fun j hj => by
    obtain rfl : j = 0 := by simpa using hj
    simp only [List.getElem_cons_zero, dg, UInt8.toNat_ofNat']
    rw [show (((48 + k % 10) % 2 ^ 8 : Nat) : Int) = 48 + (k : Int) % 10 by omega]
    exact hc)
  exact H

theorem bcell {W w1 : World} (hb : Below W.heap.size W w1) : (∀ b o, b < W.heap.size → w1.cell? ⟨b, o, none⟩ = W.cell? ⟨b, o, none⟩) ∧ (∀ b o, b < W.heap.size → w1.frozen? ⟨b, o, none⟩ = W.frozen? ⟨b, o, none⟩) :=
  ⟨fun b o h => hb.cell (p := ⟨b, o, none⟩) h, fun b o h => hb.frozen (p := ⟨b, o, none⟩) h⟩

set_option maxRecDepth 100000 in
set_option maxHeartbeats 800000 in
theorem markText_any (k : Nat) (h0 : 0 < k) (h1 : k ≤ 1000000) (w : World) :
    Calls Tryd.prog 40 #[.int .i64 k] w fun e w' => e = .returned (.string (mt k)) ∧ Below w.heap.size w w' := by
  go_enter Tryd.func40, Tryd.ntmps40
  go_wp2
  go_loopw [0, 3] (fun a v wr => ∃ (f m : Nat) (o : ByteArray), a = .int .i64 m ∧ v = .string o ∧ m ≤ k ∧ Hid (m < 10 ^ f) ∧ f ≤ 20 ∧ o.size + f ≤ 20 ∧ Hid (mtl f m o = mtl 20 k ⟨#[]⟩) ∧ Below w.heap.size w wr) (fun a _ _ => (intOf a).toNat)
  case atStart => exact ⟨20, k, ⟨#[]⟩, rfl, rfl, Nat.le_refl _, by unfold Hid; omega, by omega, by simp [ByteArray.size], rfl, Below.refl _ _⟩
  case round =>
    obtain ⟨f, m, o, rfl, rfl, hmk, hm, hf, hof, hmt, hnx⟩ := hrel
    have hsz := hnx.size
    by_cases hp : 0 < m
    · have hcv := digit_string m
      go_wp2
      go_roundw
      case rel =>
        have hm' := hm.out
        obtain ⟨g, rfl⟩ : ∃ g, f = g + 1 := ⟨f - 1, by cases f with | zero => simp at hm'; omega | succ f => omega⟩
        refine ⟨g, m / 10, _, by go_num, rfl, by omega, ?_, by omega, ?_, ?_, hnx.alloc hsz _⟩
        · unfold Hid; rw [Nat.pow_succ] at hm'; omega
        · simp only [ByteArray.size_append]; show 1 + o.size + g ≤ 20; omega
        · unfold Hid; rw [← hmt.out, mtl_more g m o hp]
      case measure => simp [intOf]; omega
    · obtain rfl : m = 0 := by omega
      go_wp2
      go_ret
      have h2 := hmt.out
      rw [mtl_end] at h2
      exact ⟨by rw [h2]; rfl, hnx⟩


/-- A row of values that lies in a block of its own. -/
def VA (w : World) (a : Option Addr) (E : List Vn) : Prop := E ≠ [] → ∃ g, a = some ⟨g, 0, none⟩ ∧ g < w.heap.size ∧ vlAt w g 0 E
theorem VA.below {w w' : World} {a : Option Addr} {E : List Vn} (h : VA w a E) (hb : Below w.heap.size w w') : VA w' a E := fun hn => by
  obtain ⟨g, h1, h2, h3⟩ := h hn
  exact ⟨g, h1, Nat.lt_of_lt_of_le h2 hb.size, h3.below hb h2⟩
theorem vcs_len (E : List Vn) : (vcs E).length = E.length * 3 := by
  induction E with
  | nil => rfl
  | cons x E ih =>
    have : vcs (x :: E) = [.int .i64 x.1, .string x.2.1, .int .i64 x.2.2] ++ vcs E := rfl
    rw [this, List.length_append, ih]
    simp
    omega
theorem vcs_at : ∀ (E : List Vn) (i : Nat) (h : i < E.length), (vcs E)[i * 3]? = some (.int .i64 E[i].1) ∧ (vcs E)[i * 3 + 1]? = some (.string E[i].2.1) ∧ (vcs E)[i * 3 + 2]? = some (.int .i64 E[i].2.2)
  | x :: E, 0, _ => ⟨rfl, rfl, rfl⟩
  | x :: E, i + 1, h => by
    have e : vcs (x :: E) = [.int .i64 x.1, .string x.2.1, .int .i64 x.2.2] ++ vcs E := rfl
    have h' : i < E.length := by simpa using h
    obtain ⟨a, b, c⟩ := vcs_at E i h'
    rw [e]
    refine ⟨?_, ?_, ?_⟩
    · rw [List.getElem?_append_right (by simp; omega), show (i + 1) * 3 - [Value.int .i64 x.1, .string x.2.1, .int .i64 x.2.2].length = i * 3 by simp; omega]; exact a
    · rw [List.getElem?_append_right (by simp; omega), show (i + 1) * 3 + 1 - [Value.int .i64 x.1, .string x.2.1, .int .i64 x.2.2].length = i * 3 + 1 by simp; omega]; exact b
    · rw [List.getElem?_append_right (by simp; omega), show (i + 1) * 3 + 2 - [Value.int .i64 x.1, .string x.2.1, .int .i64 x.2.2].length = i * 3 + 2 by simp; omega]; exact c
theorem row_cells {w : World} {B : Nat} {v : Value} {E : List Vn} (h : w.ownsRow B 62 3 v E.length (vcs E)) (hn : 0 < E.length) : ∃ g c cur, v = .slice (some ⟨g, 0, none⟩) E.length c ∧ w.heap[g]? = some (.cells cur 62 (0, 0)) ∧ B ≤ g ∧ E.length * 3 ≤ cur.size ∧ vlAt w g 0 E := by
  obtain ⟨g, c, e, _⟩ := own_pos h hn
  obtain ⟨a, cap, hv⟩ := ownsRow_shape h
  rw [hv] at e
  simp only [Value.slice.injEq] at e
  obtain ⟨rfl, _, _⟩ := e
  subst hv
  obtain ⟨cur, hcu, hgb⟩ := own_at h (g := g) rfl
  have hat : ∀ j, j < E.length * 3 → cur[j]? = (vcs E)[j]? := fun j hj => by
    have h1 := h.cellAt j (by omega)
    rw [← h1, cell_of_block hcu]
  refine ⟨g, _, cur, rfl, hcu, hgb, ?_, fun i hi => ?_⟩
  · rcases Nat.lt_or_ge cur.size (E.length * 3) with h1 | h1
    · have h2 := hat cur.size h1
      rw [Array.getElem?_eq_none (Nat.le_refl _), List.getElem?_eq_getElem (by rw [vcs_len]; exact h1)] at h2
      simp at h2
    · exact h1
  · obtain ⟨x, y, z⟩ := vcs_at E i hi
    rw [Nat.zero_add, cell_of_block hcu, cell_of_block hcu, cell_of_block hcu, hat _ (by omega), hat _ (by omega), hat _ (by omega)]
    exact ⟨x, y, z⟩
theorem vals_of_row {w : World} {B : Nat} {v : Value} {E : List Vn} (h : w.ownsRow B 62 3 v E.length (vcs E)) : ∃ a c, v = .slice a E.length c ∧ VA w a E := by
  obtain ⟨a, c, hv⟩ := ownsRow_shape h
  refine ⟨a, c, hv, fun hn => ?_⟩
  obtain ⟨g, c', cur, h1, h2, _, _, h3⟩ := row_cells h (List.length_pos_iff.2 hn)
  rw [hv] at h1
  simp only [Value.slice.injEq] at h1
  exact ⟨g, h1.1, lt_of_block h2, h3⟩
theorem eqValsR (a a' : Option Addr) (c c' : Nat) (E : List Vn) (w : World) (h : VA w a E) (h' : VA w a' E) (hn : E.length ≤ 9223372036854775807) :
    Calls Tryd.prog 14 #[.slice a E.length c, .slice a' E.length c'] w fun e w' => e = .returned (.bool true) ∧ Below w.heap.size w w' := by
  by_cases e : E = []
  · subst e
    exact eqVals a a' 0 0 c 0 0 c' [] w (fun h => absurd rfl h) (fun h => absurd rfl h) (fun i hi => by simp at hi) (fun i hi => by simp at hi) hn
  · obtain ⟨g, h1, h2, h3⟩ := h e
    obtain ⟨g', h1', h2', h3'⟩ := h' e
    exact eqVals a a' g 0 c g' 0 c' E w (fun _ => ⟨h1, h2⟩) (fun _ => ⟨h1', h2'⟩) h3 h3' hn

/-- The marks of n values. -/
def marksV (n : Nat) : List Vn := (List.range n).map fun (i : Nat) => (1 + 3 * (i : Int), mt (2 + 3 * i), 1 + 3 * (i : Int) + 2)
theorem marksV_len (n : Nat) : (marksV n).length = n := by simp [marksV]
theorem marksV_at (n i : Nat) (h : i < (marksV n).length) : (marksV n)[i] = (1 + 3 * (i : Int), mt (2 + 3 * i), 1 + 3 * (i : Int) + 2) := by simp [marksV]

set_option maxRecDepth 100000 in
set_option maxHeartbeats 1600000 in
theorem markV_any (a : Option Addr) (g n cap : Nat) (arr : Array Value) (w : World) (hn : n ≤ 1000) (ha : Hid (0 < n → a = some ⟨g, 0, none⟩ ∧ w.heap[g]? = some (.cells arr 62 (0, 0)) ∧ n * 3 ≤ arr.size)) :
    Calls Tryd.prog 18 #[.slice a n cap, .int .i64 1] w fun e w' => e = .returned (.int .i64 (1 + 3 * (n : Int))) ∧ Below g w w' ∧ (0 < n → g < w'.heap.size ∧ vlAt w' g 0 (marksV n)) ∧ (n = 0 → w' = w) := by
  go_enter Tryd.func18, Tryd.ntmps18
  go_wp2
  go_loopw [1, 5] (fun m i wr => ∃ k : Nat, k ≤ n ∧ i = .int .i64 k ∧ m = .int .i64 (1 + 3 * (k : Int)) ∧ Hid (0 < n → ∃ cur : Array Value, wr.heap[g]? = some (.cells cur 62 (0, 0)) ∧ n * 3 ≤ cur.size ∧ ∀ j, j < k → cur[j * 3]? = some (.int .i64 (1 + 3 * (j : Int))) ∧ cur[j * 3 + 1]? = some (.string (mt (2 + 3 * j))) ∧ cur[j * 3 + 2]? = some (.int .i64 (1 + 3 * (j : Int) + 2))) ∧ Below g w wr ∧ Hid (n = 0 → wr = w)) (fun _ i _ => n - (intOf i).toNat)
  case atStart => exact ⟨0, by omega, rfl, rfl, fun h => ⟨arr, (ha.out h).2.1, (ha.out h).2.2, fun j hj => absurd hj (by omega)⟩, Below.refl _ _, fun _ => rfl⟩
  case round =>
    obtain ⟨k, hk, rfl, rfl, hcur, hnx, hno⟩ := hrel
    by_cases hlt : k < n
    · obtain ⟨rfl, _, _⟩ := ha.out (by omega)
      obtain ⟨cur, hc, hcs, hA⟩ := hcur.out (by omega)
      have hgl := lt_of_block hc
      obtain ⟨o0, ho0⟩ : ∃ o, cur[k * 3]? = some o := ⟨_, Array.getElem?_eq_getElem (by omega)⟩
      obtain ⟨o1, ho1⟩ : ∃ o, cur[k * 3 + 1]? = some o := ⟨_, Array.getElem?_eq_getElem (by omega)⟩
      obtain ⟨o2, ho2⟩ : ∃ o, cur[k * 3 + 2]? = some o := ⟨_, Array.getElem?_eq_getElem (by omega)⟩
      have d0 := (cell_of_block hc (k * 3)).trans ho0
      have f0 := free_of_block hc (k * 3)
      have HC : Hid (wr.heap[g]? = some (.cells cur 62 (0, 0))) := hc
      have HA : Hid (∀ j, j < k → cur[j * 3]? = some (.int .i64 (1 + 3 * (j : Int))) ∧ cur[j * 3 + 1]? = some (.string (mt (2 + 3 * j))) ∧ cur[j * 3 + 2]? = some (.int .i64 (1 + 3 * (j : Int) + 2))) := hA
      have HM : Hid (∀ w : World, Calls Tryd.prog 40 #[.int .i64 (1 + 3 * (k : Int) + 1)] w fun e w' => e = .returned (.string (mt (2 + 3 * k))) ∧ Below w.heap.size w w') := fun w => by
        have H := markText_any (2 + 3 * k) (by omega) (by omega) w
        rw [show (((2 + 3 * k : Nat)) : Int) = 1 + 3 * (k : Int) + 1 by omega] at H
        exact H
      have e2 : wrap64 (1 + 3 * (k : Int) + 1 + 1) = 1 + 3 * (k : Int) + 2 := by unfold wrap64; omega
      have e1 : wrap64 (1 + 3 * (k : Int) + 1) = 1 + 3 * (k : Int) + 1 := by unfold wrap64; omega
      have HE2 : Hid (1 + 3 * (k : Int) + 1 + 1 = 1 + 3 * (k : Int) + 2) := by unfold Hid; omega
      clear hc hA
      go_wp2_with fail
      refine (HM.out _).mono ?_
      rintro e w1 ⟨rfl, hb2⟩
      have hc1 : w1.heap[g]? = some (.cells (cur.setIfInBounds (k * 3) (.int .i64 (1 + 3 * (k : Int)))) 62 (0, 0)) := (hb2.block g (by simpa using hgl)).trans (heap_setCell_same _ _ _ _ _ _ HC.out)
      have d1 := (cell_of_block hc1 (k * 3 + 1)).trans ((Array.getElem?_setIfInBounds_ne (by omega)).trans ho1)
      have f1 := free_of_block hc1 (k * 3 + 1)
      have hc2 : (w1.setCell ⟨g, k * 3 + 1, none⟩ (.string (mt (2 + 3 * k)))).heap[g]? = some (.cells ((cur.setIfInBounds (k * 3) (.int .i64 (1 + 3 * (k : Int)))).setIfInBounds (k * 3 + 1) (.string (mt (2 + 3 * k)))) 62 (0, 0)) := heap_setCell_same _ _ _ _ _ _ hc1
      have d2 := (cell_of_block hc2 (k * 3 + 2)).trans ((Array.getElem?_setIfInBounds_ne (by omega)).trans ((Array.getElem?_setIfInBounds_ne (by omega)).trans ho2))
      have f2 := free_of_block hc2 (k * 3 + 2)
      have HC2 : Hid ((w1.setCell ⟨g, k * 3 + 1, none⟩ (.string (mt (2 + 3 * k)))).heap[g]? = some (.cells ((cur.setIfInBounds (k * 3) (.int .i64 (1 + 3 * (k : Int)))).setIfInBounds (k * 3 + 1) (.string (mt (2 + 3 * k)))) 62 (0, 0))) := hc2
      clear hc1 hc2
      go_wp2
      go_roundw
      case rel =>
        refine ⟨k + 1, by omega, by go_num, by go_num, fun _ => ⟨_, heap_setCell_same _ _ _ _ _ _ HC2.out, by simpa using hcs, ?_⟩, ?_, fun h => absurd h (by omega)⟩
        · intro j hj
          by_cases e : j = k
          · subst e
            refine ⟨?_, ?_, ?_⟩
            · rw [Array.getElem?_setIfInBounds_ne (by omega), Array.getElem?_setIfInBounds_ne (by omega), Array.getElem?_setIfInBounds_self_of_lt (by omega)]
            · rw [Array.getElem?_setIfInBounds_ne (by omega), Array.getElem?_setIfInBounds_self_of_lt (by simp; omega)]
            · rw [Array.getElem?_setIfInBounds_self_of_lt (by simp; omega)]
              try rw [HE2.out]
          · have h := HA.out j (by omega)
            refine ⟨?_, ?_, ?_⟩
            · rw [Array.getElem?_setIfInBounds_ne (by omega), Array.getElem?_setIfInBounds_ne (by omega), Array.getElem?_setIfInBounds_ne (by omega)]; exact h.1
            · rw [Array.getElem?_setIfInBounds_ne (by omega), Array.getElem?_setIfInBounds_ne (by omega), Array.getElem?_setIfInBounds_ne (by omega)]; exact h.2.1
            · rw [Array.getElem?_setIfInBounds_ne (by omega), Array.getElem?_setIfInBounds_ne (by omega), Array.getElem?_setIfInBounds_ne (by omega)]; exact h.2.2
        · exact (((hnx.setCell (Nat.le_refl _) _).trans (Below.mono hb2 (by simp; omega))).setCell (Nat.le_refl _) _).setCell (Nat.le_refl _) _
      case measure => simp [intOf]; omega
    · obtain rfl : k = n := by omega
      go_wp2
      go_ret
      refine ⟨rfl, hnx, fun h => ?_, hno.out⟩
      obtain ⟨cur, hc, hcs, hA⟩ := hcur.out h
      refine ⟨lt_of_block hc, fun i hi => ?_⟩
      rw [marksV_len] at hi
      rw [Nat.zero_add, cell_of_block hc, cell_of_block hc, cell_of_block hc, marksV_at]
      exact hA i hi
theorem markVals (B : Nat) (a : Option Addr) (c : Nat) (E : List Vn) (w : World) (hown : w.ownsRow B 62 3 (.slice a E.length c) E.length (vcs E)) (hn : E.length ≤ 1000) :
    Calls Tryd.prog 18 #[.slice a E.length c, .int .i64 1] w fun e w' => e = .returned (.int .i64 (1 + 3 * (E.length : Int))) ∧ VA w' a (marksV E.length) ∧ Below B w w' := by
  rcases Nat.eq_zero_or_pos E.length with h0 | h0
  · refine (markV_any a 0 E.length c #[] w hn (fun h => absurd h (by omega))).mono ?_
    rintro e w' ⟨rfl, _, _, h4⟩
    obtain rfl := h4 h0
    exact ⟨rfl, fun h => absurd (by have := marksV_len E.length; rw [h0] at this; exact List.length_eq_zero_iff.1 (by rw [h0]; exact this)) h, Below.refl _ _⟩
  · obtain ⟨g, c', cur, h1, h2, h3, h4, _⟩ := row_cells hown h0
    simp only [Value.slice.injEq] at h1
    refine (markV_any a g E.length c cur w hn (fun _ => ⟨h1.1, h2, h4⟩)).mono ?_
    rintro e w' ⟨rfl, h5, h6, _⟩
    exact ⟨rfl, fun _ => ⟨g, h1.1, (h6 h0).1, (h6 h0).2⟩, h5.mono h3⟩

set_option maxRecDepth 100000 in
set_option maxHeartbeats 1600000 in
theorem heldV_any (a : Option Addr) (g n cap : Nat) (w : World) (hn : n ≤ 1000) (ha : Hid (0 < n → a = some ⟨g, 0, none⟩ ∧ g < w.heap.size ∧ vlAt w g 0 (marksV n))) :
    Calls Tryd.prog 19 #[.slice a n cap, .int .i64 1] w fun e w' => e = .returned (.int .i64 (1 + 3 * (n : Int))) ∧ Below w.heap.size w w' := by
  go_enter Tryd.func19, Tryd.ntmps19
  go_wp2
  go_loopw [1, 5] (fun m i wr => ∃ k : Nat, k ≤ n ∧ i = .int .i64 k ∧ m = .int .i64 (1 + 3 * (k : Int)) ∧ Below w.heap.size w wr) (fun _ i _ => n - (intOf i).toNat)
  case atStart => exact ⟨0, by omega, rfl, rfl, Below.refl _ _⟩
  case round =>
    obtain ⟨k, hk, rfl, rfl, hnx⟩ := hrel
    by_cases hlt : k < n
    · obtain ⟨rfl, hgl, hM⟩ := ha.out (by omega)
      have hc := hM k (by rw [marksV_len]; omega)
      rw [marksV_at, Nat.zero_add] at hc
      have HM : Hid (∀ w : World, Calls Tryd.prog 40 #[.int .i64 (1 + 3 * (k : Int) + 1)] w fun e w' => e = .returned (.string (mt (2 + 3 * k))) ∧ Below w.heap.size w w') := fun w => by
        have H := markText_any (2 + 3 * k) (by omega) (by omega) w
        rw [show (((2 + 3 * k : Nat)) : Int) = 1 + 3 * (k : Int) + 1 by omega] at H
        exact H
      have hgl2 : g < wr.heap.size := Nat.lt_of_lt_of_le hgl hnx.size
      have HK : Hid (∀ W, Keeps wr W → W.cell? ⟨g, k * 3 + 2, none⟩ = some (.int .i64 (1 + 3 * (k : Int) + 2)) ∧ Below w.heap.size w W) := fun W hW => ⟨hW.cell hgl2 ((hnx.cell (by exact hgl)).trans hc.2.2), bel_z hnx hW.below⟩
      have k1 : ∀ W, Keeps wr W → W.cell? ⟨g, k * 3 + 1, none⟩ = some (.string (mt (2 + 3 * k))) := fun W hW => hW.cell hgl2 ((hnx.cell (by exact hgl)).trans hc.2.1)
      have d0 : wr.cell? ⟨g, k * 3, none⟩ = some (.int .i64 (1 + 3 * (k : Int))) := (hnx.cell (by exact hgl)).trans hc.1
      have e2 : wrap64 (1 + 3 * (k : Int) + 1 + 1) = 1 + 3 * (k : Int) + 2 := by unfold wrap64; omega
      have e1 : wrap64 (1 + 3 * (k : Int) + 1) = 1 + 3 * (k : Int) + 1 := by unfold wrap64; omega
      clear hc hM
      go_wp2
      refine region_w (C := Keeps wr) (by kernel_rfl) (by kernel_rfl) (Keeps.drew wr) ?_
      (iterate 8
        (apply wq_go _ (by rfl)
         · intro wq hq
           go_simp
           first
             | (go_at_call 40; exact qcall hq (HM.out _))
             | exact rfl
         simp only [Act.put, List.setIfInBounds_toArray, List.set_cons_succ, List.set_cons_zero]))
      refine wq_nil ?_
      intro w1 hk1
      obtain ⟨d2, hb1⟩ := HK.out w1 hk1
      have HB1 : Hid (Below w.heap.size w w1) := hb1
      clear hk1 HK k1 d0 hb1 HM
      go_wp2
      go_roundw
      case rel => exact ⟨k + 1, by omega, by go_num, by go_num, HB1.out⟩
      case measure => simp [intOf]; omega
    · obtain rfl : k = n := by omega
      go_wp2
      go_ret
      exact ⟨rfl, hnx⟩
theorem heldVals (a : Option Addr) (n c : Nat) (w : World) (h : VA w a (marksV n)) (hn : n ≤ 1000) :
    Calls Tryd.prog 19 #[.slice a n c, .int .i64 1] w fun e w' => e = .returned (.int .i64 (1 + 3 * (n : Int))) ∧ Below w.heap.size w w' := by
  rcases Nat.eq_zero_or_pos n with h0 | h0
  · exact heldV_any a 0 n c w hn (fun h => absurd h (by omega))
  · obtain ⟨g, h1, h2, h3⟩ := h (fun e => by have := marksV_len n; rw [e] at this; simp at this; omega)
    exact heldV_any a g n c w hn (fun _ => ⟨h1, h2, h3⟩)

set_option maxRecDepth 100000 in
set_option maxHeartbeats 1600000 in
theorem markNds (a : Option Addr) (g n cap : Nat) (arr : Array Value) (w : World) (hn : n ≤ 1048576) (ha : Hid (0 < n → a = some ⟨g, 0, none⟩ ∧ w.heap[g]? = some (.cells arr 59 (0, 0)) ∧ n * 3 ≤ arr.size)) :
    Calls Tryd.prog 17 #[.slice a n cap, .int .i64 1] w fun e w' => e = .returned (.int .i64 (1 + 3 * (n : Int))) ∧ Below g w w' ∧ (∀ q, q ≠ g → w'.heap[q]? = w.heap[q]?) ∧ w'.heap.size = w.heap.size := by
  go_enter Tryd.func17, Tryd.ntmps17
  go_wp2
  go_loopw [1, 5] (fun m i wr => ∃ k : Nat, k ≤ n ∧ i = .int .i64 k ∧ m = .int .i64 (1 + 3 * (k : Int)) ∧ Hid (0 < n → ∃ cur : Array Value, wr.heap[g]? = some (.cells cur 59 (0, 0)) ∧ n * 3 ≤ cur.size) ∧ Below g w wr ∧ Hid ((∀ q, q ≠ g → wr.heap[q]? = w.heap[q]?) ∧ wr.heap.size = w.heap.size)) (fun _ i _ => n - (intOf i).toNat)
  case atStart => exact ⟨0, by omega, rfl, rfl, fun h => ⟨arr, (ha.out h).2.1, (ha.out h).2.2⟩, Below.refl _ _, ⟨fun _ _ => rfl, rfl⟩⟩
  case round =>
    obtain ⟨k, hk, rfl, rfl, hcur, hnx, hno⟩ := hrel
    by_cases hlt : k < n
    · obtain ⟨rfl, _, _⟩ := ha.out (by omega)
      obtain ⟨cur, hc, hcs⟩ := hcur.out (by omega)
      have hgl := lt_of_block hc
      obtain ⟨o0, ho0⟩ : ∃ o, cur[k * 3]? = some o := ⟨_, Array.getElem?_eq_getElem (by omega)⟩
      obtain ⟨o1, ho1⟩ : ∃ o, cur[k * 3 + 1]? = some o := ⟨_, Array.getElem?_eq_getElem (by omega)⟩
      have d0 := (cell_of_block hc (k * 3)).trans ho0
      have f0 := free_of_block hc (k * 3)
      have hc1 : (wr.setCell ⟨g, k * 3, none⟩ (.int .i64 (1 + 3 * (k : Int)))).heap[g]? = some (.cells (cur.setIfInBounds (k * 3) (.int .i64 (1 + 3 * (k : Int)))) 59 (0, 0)) := heap_setCell_same _ _ _ _ _ _ hc
      have d1 := (cell_of_block hc1 (k * 3 + 1)).trans ((Array.getElem?_setIfInBounds_ne (by omega)).trans ho1)
      have f1 := free_of_block hc1 (k * 3 + 1)
      have hc2 : ((wr.setCell ⟨g, k * 3, none⟩ (.int .i64 (1 + 3 * (k : Int)))).setCell ⟨g, k * 3 + 1, none⟩ (.int .i64 (1 + 3 * (k : Int) + 1))).heap[g]? = some (.cells ((cur.setIfInBounds (k * 3) (.int .i64 (1 + 3 * (k : Int)))).setIfInBounds (k * 3 + 1) (.int .i64 (1 + 3 * (k : Int) + 1))) 59 (0, 0)) := heap_setCell_same _ _ _ _ _ _ hc1
      obtain ⟨o2, ho2⟩ : ∃ o, cur[k * 3 + 2]? = some o := ⟨_, Array.getElem?_eq_getElem (by omega)⟩
      have d2 := (cell_of_block hc2 (k * 3 + 2)).trans ((Array.getElem?_setIfInBounds_ne (by omega)).trans ((Array.getElem?_setIfInBounds_ne (by omega)).trans ho2))
      have f2 := free_of_block hc2 (k * 3 + 2)
      have HC2 : Hid (((wr.setCell ⟨g, k * 3, none⟩ (.int .i64 (1 + 3 * (k : Int)))).setCell ⟨g, k * 3 + 1, none⟩ (.int .i64 (1 + 3 * (k : Int) + 1))).heap[g]? = some (.cells ((cur.setIfInBounds (k * 3) (.int .i64 (1 + 3 * (k : Int)))).setIfInBounds (k * 3 + 1) (.int .i64 (1 + 3 * (k : Int) + 1))) 59 (0, 0))) := hc2
      clear hc hc1 hc2
      go_wp2
      go_roundw
      case rel =>
        refine ⟨k + 1, by omega, by go_num, by go_num, fun _ => ⟨_, heap_setCell_same _ _ _ _ _ _ HC2.out, by simpa using hcs⟩, ((hnx.setCell (Nat.le_refl _) _).setCell (Nat.le_refl _) _).setCell (Nat.le_refl _) _, ⟨fun q hq => ?_, by simpa using hno.out.2⟩⟩
        rw [heap_setCell_other _ _ _ _ hq, heap_setCell_other _ _ _ _ hq, heap_setCell_other _ _ _ _ hq]; exact hno.out.1 q hq
      case measure => simp [intOf]; omega
    · obtain rfl : k = n := by omega
      go_wp2
      go_ret
      exact ⟨rfl, hnx, hno.out.1, hno.out.2⟩

theorem zo_len (L : List Nd) : (zoR L).length ≤ 40 := by
  unfold zoR
  split
  · exact zr_len (by assumption)
  · simp
theorem implZeroT (a : Option Addr) (b off cap : Nat) (L : List Nd) (w : World) (ha : Hid (L ≠ [] → a = some ⟨b, off, none⟩ ∧ b < w.heap.size)) (hL : Hid (ndAt w b off L)) (hlen : L.length ≤ 1048576) (hT : Hid (Tabs w)) :
    Calls Tryd.prog 16 #[.slice a L.length cap] w fun e w' => ∃ v, e = .returned (.tuple #[v, .bool (goodT L)]) ∧ w'.ownsRow w.heap.size 62 3 v (zoR L).length (vcs (zoR L)) ∧ Below w.heap.size w w' := implZeroOf a b off cap L w ha hL hlen hT
theorem specZeroT (a : Option Addr) (b off cap : Nat) (L : List Nd) (w : World) (ha : Hid (L ≠ [] → a = some ⟨b, off, none⟩ ∧ b < w.heap.size)) (hL : Hid (ndAt w b off L)) (hlen : L.length ≤ 1048576) :
    Calls Tryd.prog 15 #[.slice a L.length cap] w fun e w' => ∃ v, e = .returned (.tuple #[v, .bool (goodT L)]) ∧ w'.ownsRow w.heap.size 62 3 v (zoR L).length (vcs (zoR L)) ∧ Below w.heap.size w w' := specZeroOf a b off cap L w ha hL hlen

set_option maxRecDepth 100000 in
set_option maxHeartbeats 3200000 in
theorem zero_law (a : Option Addr) (b off cap : Nat) (L : List Nd) (w : World) (ha : Hid (L ≠ [] → a = some ⟨b, off, none⟩ ∧ b < w.heap.size)) (hL : Hid (ndAt w b off L)) (hlen : Hid (L.length ≤ 9223372036854775807)) (hT : Hid (Tabs w)) :
    Calls Tryd.prog 4 #[.slice a L.length cap] w fun e w' => e = .returned (.bool true) ∧ Below w.heap.size w w' := by
  go_enter Tryd.func4, Tryd.ntmps4
  go_wp2_with fail
  refine (szNds a cap L.length w hlen.out).mono ?_
  rintro e w1 ⟨r, rfl, hr, hw1⟩
  obtain rfl := hw1.symm
  clear hw1
  by_cases hr0 : r < 0
  · clear hr
    go_wp2
    go_ret
    exact ⟨rfl, Below.refl _ _⟩
  · have hlen2 : L.length ≤ 1048576 := hr (by omega)
    clear hr
    have hbl : Hid (L ≠ [] → b < w.heap.size) := fun h => (ha.out h).2
    go_wp2_with fail
    refine (toNds a b off cap L w ha hL.out hlen2).mono ?_
    rintro e w2 ⟨rfl, hs2, hL2, _, hb2⟩
    have HB2 : Hid (Below w.heap.size w w2) := hb2
    clear hb2
    have hel := zo_len L
    go_wp2_with fail
    refine (specZeroT (some ⟨w.heap.size, 0, none⟩) w.heap.size 0 L.length L w2 (fun _ => ⟨rfl, hs2⟩) hL2 hlen2).mono ?_
    rintro e w3 ⟨v0, rfl, ho0, hb3⟩
    obtain ⟨y, hyy⟩ : ∃ y, goodT L = y := ⟨_, rfl⟩
    obtain ⟨E, hE⟩ : ∃ E, zoR L = E := ⟨_, rfl⟩
    rw [hE] at ho0 hel
    rw [hyy]
    have HEY : Hid (zoR L = E ∧ goodT L = y) := ⟨hE, hyy⟩
    clear hE hyy
    obtain ⟨a0, c0, rfl, hI0⟩ := vals_of_row ho0
    have HB3 : Hid (Below w.heap.size w w3) := below2 HB2.out hb3
    have HI0 : Hid (VA w3 a0 E) := hI0
    clear hb3 hL2 hs2 ho0 hI0
    go_wp2_with fail
    refine (toNds a b off cap L w3 (fun h => ⟨(ha.out h).1, Nat.lt_of_lt_of_le (ha.out h).2 HB3.out.size⟩) (ndAt_nil HB3.out hbl.out hL.out) hlen2).mono ?_
    rintro e w4 ⟨rfl, hs4, hL4, ⟨arr, hblk, hars⟩, hb4⟩
    obtain ⟨xg, hxg⟩ : ∃ xg, w3.heap.size = xg := ⟨_, rfl⟩
    rw [hxg] at hs4 hL4 hblk ⊢
    have HX4 : Hid (xg < w4.heap.size ∧ w3.heap.size = xg) := ⟨hs4, hxg⟩
    clear hxg
    have HB34 : Hid (Below w3.heap.size w3 w4) := hb4
    clear hb4
    go_wp2_with fail
    refine (implZeroT (some ⟨xg, 0, none⟩) xg 0 L.length L w4 (fun _ => ⟨rfl, hs4⟩) hL4 hlen2 (hT.out.below (below2 HB3.out HB34.out) (Nat.le_refl _))).mono ?_
    rintro e w5 ⟨v1, rfl, ho1, hb5⟩
    rw [HEY.out.1] at ho1
    rw [HEY.out.2]
    obtain ⟨a1, c1, hv1, hI1⟩ := vals_of_row ho1
    subst hv1
    have hblk5 : w5.heap[xg]? = some (.cells arr 59 (0, 0)) := (hb5.block xg hs4).trans hblk
    have hL5 := hL4.below hb5 hs4
    have hs5 : xg < w5.heap.size := Nat.lt_of_lt_of_le hs4 hb5.size
    have HB35 : Hid (Below w3.heap.size w3 w5) := below2 HB34.out hb5
    have HO1 : Hid (w5.ownsRow w4.heap.size 62 3 (.slice a1 E.length c1) E.length (vcs E)) := ho1
    clear hb5 hL4 hs4 hblk ho1 HB34
    go_wp2_with fail
    refine (eqValsR a1 a0 c1 c0 E w5 hI1 (VA.below HI0.out HB35.out) (by omega)).mono ?_
    rintro e w6 ⟨rfl, hb6⟩
    have hblk6 : w6.heap[xg]? = some (.cells arr 59 (0, 0)) := (hb6.block xg hs5).trans hblk5
    have hL6 := hL5.below hb6 hs5
    have hs6 : xg < w6.heap.size := Nat.lt_of_lt_of_le hs5 hb6.size
    have HB36 : Hid (Below w3.heap.size w3 w6) := below2 HB35.out hb6
    have HO6 : Hid (w6.ownsRow w4.heap.size 62 3 (.slice a1 E.length c1) E.length (vcs E)) := own_below HO1.out hb6
    clear hb6 hI1 hL5 hs5 hblk5 HO1 HB35
    cases y
    all_goals
      go_wp2_with fail
      refine (toNds a b off cap L w6 (fun h => ⟨(ha.out h).1, Nat.lt_of_lt_of_le (ha.out h).2 (below2 HB3.out HB36.out).size⟩) (ndAt_nil (below2 HB3.out HB36.out) hbl.out hL.out) hlen2).mono ?_
      rintro e w7 ⟨rfl, hs7, hL7, _, hb7⟩
      have hL67 := hL6.below hb7 hs6
      have hs67 : xg < w7.heap.size := Nat.lt_of_lt_of_le hs6 hb7.size
      have hblk7 : w7.heap[xg]? = some (.cells arr 59 (0, 0)) := (hb7.block xg hs6).trans hblk6
      have HB37 : Hid (Below w3.heap.size w3 w7) := below2 HB36.out hb7
      have HO7 : Hid (w7.ownsRow w4.heap.size 62 3 (.slice a1 E.length c1) E.length (vcs E)) := own_below HO6.out hb7
      clear hb7
      go_wp2_with fail
      refine (eqNds (some ⟨xg, 0, none⟩) (some ⟨w6.heap.size, 0, none⟩) xg 0 L.length w6.heap.size 0 L.length L w7 (fun _ => ⟨rfl, hs67⟩) (fun _ => ⟨rfl, hs7⟩) hL67 hL7 (by omega)).mono ?_
      rintro e w8 ⟨rfl, hb8⟩
      have hblk8 : w8.heap[xg]? = some (.cells arr 59 (0, 0)) := (hb8.block xg hs67).trans hblk7
      have HB38 : Hid (Below w3.heap.size w3 w8) := below2 HB37.out hb8
      have HO8 : Hid (w8.ownsRow w4.heap.size 62 3 (.slice a1 E.length c1) E.length (vcs E)) := own_below HO7.out hb8
      clear hb8 hL67 hL7 hs7 hblk7 hs67 HO7 HB37
      go_wp2_with fail
      refine (markNds (some ⟨xg, 0, none⟩) xg L.length L.length arr w8 (by omega) (fun _ => ⟨rfl, hblk8, by omega⟩)).mono ?_
      rintro e w9 ⟨rfl, hb9, hfar, hsz9⟩
      have HB39 : Hid (Below w3.heap.size w3 w9) := HB38.out.trans (by have h9 := HX4.out.2; rw [h9]; exact hb9)
      have HO9 : Hid (w9.ownsRow w4.heap.size 62 3 (.slice a1 E.length c1) E.length (vcs E)) := own_keep HO8.out (fun q hq => by
        obtain ⟨cur, hc, hB⟩ := own_at HO8.out hq
        exact hfar q (fun e9 => by have := HX4.out.1; omega))
      have hI9 : VA w9 a1 E := by
        obtain ⟨a', c', e', h'⟩ := vals_of_row HO9.out
        simp only [Value.slice.injEq] at e'
        rw [e'.1]; exact h'
      have hkn : ¬ 1 + 3 * (L.length : Int) < 0 := by omega
      clear hb9 hfar hsz9 hblk8 HB38 HO8
      go_wp2_with fail
      refine (eqValsR a1 a0 c1 c0 E w9 hI9 (VA.below HI0.out HB39.out) (by omega)).mono ?_
      rintro e w10 ⟨rfl, hb10⟩
      have HB310 : Hid (Below w3.heap.size w3 w10) := below2 HB39.out hb10
      have HO10 : Hid (w10.ownsRow w4.heap.size 62 3 (.slice a1 E.length c1) E.length (vcs E)) := own_below HO9.out hb10
      clear hb10 hI9 HB39 HO9
      go_wp2_with fail
      refine (markVals w4.heap.size a1 c1 E w10 HO10.out (by omega)).mono ?_
      rintro e w11 ⟨rfl, hI11, hb11⟩
      have HB311 : Hid (Below w3.heap.size w3 w11) := HB310.out.trans (hb11.mono (by have := HX4.out; omega))
      clear hb11 HB310 HO10
      go_wp2_with fail
      refine (heldVals a1 E.length c1 w11 hI11 (by omega)).mono ?_
      rintro e w12 ⟨rfl, hb12⟩
      have hI12 := VA.below hI11 hb12
      have HB312 : Hid (Below w3.heap.size w3 w12) := below2 HB311.out hb12
      have hqn : ¬ 1 + 3 * (E.length : Int) < 0 := by omega
      clear hb12 hI11 HB311
      go_wp2_with fail
      refine (toNds a b off cap L w12 (fun h => ⟨(ha.out h).1, Nat.lt_of_lt_of_le (ha.out h).2 (below2 HB3.out HB312.out).size⟩) (ndAt_nil (below2 HB3.out HB312.out) hbl.out hL.out) hlen2).mono ?_
      rintro e w13 ⟨rfl, hs13, hL13, _, hb13⟩
      have hI13 := VA.below hI12 hb13
      have HB313 : Hid (Below w3.heap.size w3 w13) := below2 HB312.out hb13
      clear hb13 hI12
      go_wp2_with fail
      refine (implZeroT (some ⟨w12.heap.size, 0, none⟩) w12.heap.size 0 L.length L w13 (fun _ => ⟨rfl, hs13⟩) hL13 hlen2 (hT.out.below (below2 HB3.out HB313.out) (Nat.le_refl _))).mono ?_
      rintro e w14 ⟨v2, rfl, ho14, hb14⟩
      rw [HEY.out.1] at ho14
      rw [HEY.out.2]
      obtain ⟨a2, c2, hv2, hI14⟩ := vals_of_row ho14
      subst hv2
      have hI114 := VA.below hI13 hb14
      have HB314 : Hid (Below w3.heap.size w3 w14) := below2 HB313.out hb14
      clear hb14 hI13 ho14 hL13 hs13 HB313
      go_wp2_with fail
      refine (eqValsR a2 a0 c2 c0 E w14 hI14 (VA.below HI0.out HB314.out) (by omega)).mono ?_
      rintro e w15 ⟨rfl, hb15⟩
      have hI15 := VA.below hI114 hb15
      have HB315 : Hid (Below w3.heap.size w3 w15) := below2 HB314.out hb15
      clear hb15 hI114 hI14 HB314
      go_wp2_with fail
      refine (heldVals a1 E.length c1 w15 hI15 (by omega)).mono ?_
      rintro e w16 ⟨rfl, hb16⟩
      have HB16 : Hid (Below w.heap.size w w16) := below2 HB3.out (below2 HB315.out hb16)
      clear hb16 hI15
      go_wp2
      go_ret
      exact ⟨rfl, HB16.out⟩

theorem zeroOf_walk (a : Option Addr) (cap : Nat) (L : List Nd) (w : World) (hw : IsNds w a L) (hT : Tabs w) :
    Calls Tryd.prog 4 #[.slice a L.length cap] w fun e w' => e = .returned (.bool true) ∧ Below w.heap.size w w' := by
  obtain ⟨b, off, ha, hL, hlen, _⟩ := hw
  exact zero_law a b off cap L w ha hL hlen hT

end Go.Proofs.YtlimlpidbjkofaaDoor
