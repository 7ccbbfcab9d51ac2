/-
  Rows of numbers, their marks and the look for them.
-/
import Derived.Test.YtdalkbapfjpkoaaInts
import Derived.Test.YtdalkbapfjpkoaaOwn
import Derived.Test.YtdalkbapfjpkoaaB1
import Derived.Deep.SlicePairs
import Derived.Test.YtdalkbapfjpkoaaE4
namespace Go.Proofs.Ytdalkbapfjpkoaa
open Go.ChangeShapes Go.WideShapes Go.ChangeAt Go.RowKit

/-- Numbers as the values of their cells. -/
def iv (L : List Int) : List Value := L.map fun x => .int .i64 x
theorem iv_app (l m : List Int) : iv l ++ iv m = iv (l ++ m) := by simp [iv]
theorem iv_one (l : List Int) : ∀ u ∈ iv l, u.oneCell' = true := by
  intro u hu; simp only [iv, List.mem_map] at hu; obtain ⟨b, _, rfl⟩ := hu; rfl
theorem ints_of_row {w : World} {B : Nat} {v : Value} {L : List Int} (h : w.ownsRow B 3 1 v L.length (iv L)) : ∃ a cap, v = .slice a L.length cap ∧ Ints w a L := by
  have h' := h
  rcases h'.2 with ⟨rfl, h0⟩ | ⟨g, cap, cur, rfl, _, hb, _⟩
  · obtain rfl : L = [] := List.length_eq_zero_iff.1 h0
    exact ⟨none, 0, rfl, fun h => absurd rfl h⟩
  · refine ⟨_, cap, rfl, fun _ => ⟨g, 0, rfl, lt_of_block hb, fun i hi => ?_⟩⟩
    rw [Nat.zero_add, h.cellAt i (by omega)]
    simp [iv, hi]

/-- The marks of n integers. -/
def marksI (n : Nat) : List Int := (List.range n).map fun (i : Nat) => 1 + (i : Int)
theorem marksI_len (n : Nat) : (marksI n).length = n := by simp [marksI]
theorem marksI_at (n i : Nat) (h : i < (marksI n).length) : (marksI n)[i] = 1 + (i : Int) := by simp [marksI]

end Go.Proofs.Ytdalkbapfjpkoaa

namespace Go.Proofs.Ytdalkbapfjpkoaa
open Go.ChangeShapes Go.WideShapes Go.ChangeAt Go.RowKit Go.Deep

def IsInss (W : World) (a : Option Addr) (L : List (Int × Int)) : Prop :=
  ∃ b off, (L ≠ [] → a = some ⟨b, off, none⟩ ∧ b < W.heap.size) ∧ insAt W b off L ∧ L.length ≤ 9223372036854775807 ∧ fits L

theorem block_of_cell {w : World} {b o : Nat} {v : Value} (h : w.cell? ⟨b, o, none⟩ = some v) : b < w.heap.size := by
  rcases Nat.lt_or_ge b w.heap.size with h' | h'
  · exact h'
  · simp [World.cell?, Array.getElem?_eq_none h'] at h

end Go.Proofs.Ytdalkbapfjpkoaa

namespace Go.Proofs.Ytdalkbapfjpkoaa
open Go.ChangeShapes Go.WideShapes Go.ChangeAt Go.RowKit

theorem specEnds (a : Option Addr) (b off cap : Nat) (L : List (Int × Int)) (w : World) (ha : Hid (L ≠ [] → a = some ⟨b, off, none⟩ ∧ b < w.heap.size)) (hL : insAt w b off L) (hlen : L.length ≤ 1048576) :
    Calls Try.prog 23 #[.slice a L.length cap] w fun e w' => Told w L e w' := by
  by_cases hg : (allG L && decide (L.length ≤ 200)) = true
  · by_cases h0 : L = []
    · exact specEnds_bad a b off cap L w ha hL hlen (Or.inr h0)
    · have h2 := hg
      simp only [Bool.and_eq_true, decide_eq_true_eq] at h2
      exact specEnds_good a b off cap L w ha hL (List.length_pos_iff.2 h0) h2.2 hg
  · exact specEnds_bad a b off cap L w ha hL hlen (Or.inl (by simpa using hg))
theorem implOutline (a : Option Addr) (b off cap : Nat) (L : List (Int × Int)) (w : World) (ha : Hid (L ≠ [] → a = some ⟨b, off, none⟩ ∧ b < w.heap.size)) (hL : insAt w b off L) (hf : fits L) (hlen : L.length ≤ 1048576) :
    Calls Try.prog 22 #[.slice a L.length cap] w fun e w' => ToldO w L e w' := by
  by_cases hg : (allG L && decide (L.length ≤ 200)) = true
  · by_cases h0 : L = []
    · exact outline_bad a b off cap L w ha hL hf hlen (Or.inr h0)
    · obtain ⟨rfl, hb⟩ := ha.out h0
      obtain ⟨m, hm⟩ : ∃ m, L.length = m + 1 := ⟨L.length - 1, by have := List.length_pos_iff.2 h0; omega⟩
      by_cases hop : (L[m]'(by omega)).1 = 11
      · exact outline_good b off cap L w hb hL hf hg m hm hop
      · exact outline_last b off cap L w hb hL hf hg m hm hop
  · exact outline_bad a b off cap L w ha hL hf hlen (Or.inl (by simpa using hg))

def endsOf (L : List (Int × Int)) : List Int := (((eo L).map (·.1)).getD []).map fun (k : Nat) => (k : Int)
def deepOf (L : List (Int × Int)) : Int := ((((eo L).map (·.2)).getD 0 : Nat) : Int)
theorem nv_iv (E : List Nat) : nv E = iv (E.map fun (k : Nat) => (k : Int)) := by simp [nv, iv]
theorem ends_row {w w' : World} {L : List (Int × Int)} {v : Value} {E : List Nat} {D : Nat} (h : eo L = some (E, D)) (ho : w'.ownsRow w.heap.size 3 1 v E.length (nv E)) : w'.ownsRow w.heap.size 3 1 v (endsOf L).length (iv (endsOf L)) := by
  unfold endsOf
  rw [h]
  simp only [Option.map_some, Option.getD_some]
  rw [nv_iv] at ho
  simpa using ho
theorem ends_len (L : List (Int × Int)) : (endsOf L).length ≤ 200 := by
  unfold endsOf eo
  split
  · rename_i hg
    simp only [Bool.and_eq_true, decide_eq_true_eq] at hg
    rcases h : bodyOf (ops L) with _ | ⟨E, D⟩
    · simp
    · have : E = bkE 0 (ops L) := by
        unfold bodyOf at h
        split at h
        · simp only [Option.some.injEq, Prod.mk.injEq] at h; exact h.1.symm
        · simp at h
      subst this
      simp only [Option.map_some, Option.getD_some, List.length_map, bkE_len]
      simp [ops]; exact hg.2
  · simp
def EndsTold (L : List (Int × Int)) (w : World) (r : Ending) (w' : World) : Prop := ∃ v, r = .returned (.tuple #[v, .bool (eo L).isSome]) ∧ w'.ownsRow w.heap.size 3 1 v (endsOf L).length (iv (endsOf L)) ∧ Below w.heap.size w w'

set_option maxRecDepth 100000 in
set_option maxHeartbeats 800000 in
theorem specEndsOf (a : Option Addr) (b off cap : Nat) (L : List (Int × Int)) (w : World) (ha : Hid (L ≠ [] → a = some ⟨b, off, none⟩ ∧ b < w.heap.size)) (hL : insAt w b off L) (hlen : L.length ≤ 1048576) :
    Calls Try.prog 10 #[.slice a L.length cap] w fun r w' => EndsTold L w r w' := by
  have S := specEnds a b off cap L w ha hL hlen
  clear ha hL hlen
  go_enter Try.func10, Try.ntmps10
  go_wp2_with fail
  refine S.mono ?_
  rintro r w1 ⟨v, d, rfl, hx, hb⟩
  have HX : Hid (∀ E D, eo L = some (E, D) → d = ((D : Nat) : Int) ∧ w1.ownsRow w.heap.size 3 1 v E.length (nv E)) := hx
  clear hx S
  rcases he : eo L with _ | ⟨E, D⟩
  · have HE : Hid (eo L = none) := he
    simp only [Option.isSome_none]
    clear he
    go_wp2
    go_ret2
    exact ⟨_, by rw [HE.out]; rfl, by unfold endsOf; rw [HE.out]; exact World.ownsRow_nil _ _ _ _, hb⟩
  · have HE : Hid (eo L = some (E, D)) := he
    simp only [Option.isSome_some]
    clear he
    go_wp2
    go_ret2
    exact ⟨_, by rw [HE.out]; rfl, ends_row HE.out (HX.out E D HE.out).2, hb⟩

set_option maxRecDepth 100000 in
set_option maxHeartbeats 800000 in
theorem implEndsOf (a : Option Addr) (b off cap : Nat) (L : List (Int × Int)) (w : World) (ha : Hid (L ≠ [] → a = some ⟨b, off, none⟩ ∧ b < w.heap.size)) (hL : insAt w b off L) (hf : fits L) (hlen : L.length ≤ 1048576) :
    Calls Try.prog 9 #[.slice a L.length cap] w fun r w' => EndsTold L w r w' := by
  have S := implOutline a b off cap L w ha hL hf hlen
  clear ha hL hlen hf
  go_enter Try.func9, Try.ntmps9
  go_wp2_with fail
  refine S.mono ?_
  rintro r w1 ⟨va, ve, d, ⟨⟨p1, n1, c1, rfl⟩, ⟨p2, n2, c2, rfl⟩⟩, rfl, hx, hb⟩
  have HX : Hid (∀ E D, eo L = some (E, D) → d = ((D : Nat) : Int) ∧ w1.ownsRow w.heap.size 3 1 (.slice p2 n2 c2) E.length (nv E)) := hx
  clear hx S
  rcases he : eo L with _ | ⟨E, D⟩
  · have HE : Hid (eo L = none) := he
    simp only [Option.isSome_none]
    clear he
    go_wp2
    go_ret2
    exact ⟨_, by rw [HE.out]; rfl, by unfold endsOf; rw [HE.out]; exact World.ownsRow_nil _ _ _ _, bel_alloc hb _⟩
  · have HE : Hid (eo L = some (E, D)) := he
    simp only [Option.isSome_some]
    clear he
    go_wp2
    go_ret2
    exact ⟨_, by rw [HE.out]; rfl, ends_row HE.out ((HX.out E D HE.out).2.alloc _), bel_alloc hb _⟩

set_option maxRecDepth 100000 in
set_option maxHeartbeats 800000 in
theorem implDeepOf (a : Option Addr) (b off cap : Nat) (L : List (Int × Int)) (w : World) (ha : Hid (L ≠ [] → a = some ⟨b, off, none⟩ ∧ b < w.heap.size)) (hL : insAt w b off L) (hf : fits L) (hlen : L.length ≤ 1048576) :
    Calls Try.prog 11 #[.slice a L.length cap] w fun r w' => r = .returned (.tuple #[.int .i64 (deepOf L), .bool (eo L).isSome]) ∧ Below w.heap.size w w' := by
  have S := implOutline a b off cap L w ha hL hf hlen
  clear ha hL hlen hf
  go_enter Try.func11, Try.ntmps11
  go_wp2_with fail
  refine S.mono ?_
  rintro r w1 ⟨va, ve, d, ⟨⟨p1, n1, c1, rfl⟩, ⟨p2, n2, c2, rfl⟩⟩, rfl, hx, hb⟩
  have HX : Hid (∀ E D, eo L = some (E, D) → d = ((D : Nat) : Int) ∧ w1.ownsRow w.heap.size 3 1 (.slice p2 n2 c2) E.length (nv E)) := hx
  clear hx S
  rcases he : eo L with _ | ⟨E, D⟩
  · have HE : Hid (eo L = none) := he
    simp only [Option.isSome_none]
    clear he
    go_wp2
    go_ret2
    exact ⟨by unfold deepOf; rw [HE.out]; rfl, bel_alloc hb _⟩
  · have HE : Hid (eo L = some (E, D)) := he
    simp only [Option.isSome_some]
    clear he
    go_wp2
    go_ret2
    exact ⟨by unfold deepOf; rw [HE.out, (HX.out E D HE.out).1]; rfl, bel_alloc hb _⟩

end Go.Proofs.Ytdalkbapfjpkoaa

namespace Go.Proofs.Ytdalkbapfjpkoaa

theorem bk_ends : ∀ (l : List Int) (i : Nat) (st : List (Nat × Bool)), bk i l = some st → ∀ x ∈ st, i ≤ x.1 ∧ x.1 < i + l.length ∧ l[x.1 - i]? = some 11
  | [], i, st, h, x, hx => by
    simp [bk] at h
    subst h
    cases hx
  | op :: r, i, st, h, x, hx => by
    simp only [bk, Option.bind_eq_some_iff] at h
    obtain ⟨s', hs', h⟩ := h
    have ih := bk_ends r (i + 1) s' hs'
    have up : ∀ y ∈ s', i ≤ y.1 ∧ y.1 < i + (op :: r).length ∧ (op :: r)[y.1 - i]? = some 11 := fun y hy => by
      obtain ⟨a, b, c⟩ := ih y hy
      refine ⟨by omega, by simp only [List.length_cons]; omega, ?_⟩
      rw [show y.1 - i = (y.1 - (i + 1)) + 1 by omega, List.getElem?_cons_succ]
      exact c
    unfold bkStep at h
    by_cases h11 : op = 11
    · rw [if_pos h11] at h
      simp only [Option.some.injEq] at h
      subst h
      rcases List.mem_cons.1 hx with rfl | hx
      · subst h11
        simp
      · exact up x hx
    · rw [if_neg h11] at h
      cases s' with
      | nil => simp at h
      | cons y t =>
        obtain ⟨e, d⟩ := y
        simp only at h
        split at h
        · split at h
          · simp at h
          · simp only [Option.some.injEq] at h
            subst h
            rcases List.mem_cons.1 hx with rfl | hx
            · exact up (e, d) (by simp)
            · exact up x (by simp [hx])
        · split at h
          · split at h
            · simp at h
            · simp only [Option.some.injEq] at h
              subst h
              exact up x (by simp [hx])
          · simp only [Option.some.injEq] at h
            subst h
            exact up x hx
theorem bk_more {op : Int} {r : List Int} {i : Nat} {st : List (Nat × Bool)} (h : bk i (op :: r) = some st) : ∃ s', bk (i + 1) r = some s' ∧ bkStep i op s' = some st := by
  simpa only [bk, Option.bind_eq_some_iff] using h
theorem bkE_at : ∀ (l : List Int) (i : Nat) (st : List (Nat × Bool)), bk i l = some st → ∀ (j e : Nat), (bkE i l)[j]? = some e → i + j ≤ e ∧ e < i + l.length ∧ l[e - i]? = some 11
  | [], i, st, h, j, e, he => by simp [bkE] at he
  | op :: r, i, st, h, j, e, he => by
    obtain ⟨s', hs', h⟩ := bk_more h
    cases j with
    | zero =>
      simp only [bkE, List.getElem?_cons_zero, Option.some.injEq, hs', Option.getD_some] at he
      unfold bkTop at he
      by_cases h11 : op = 11
      · rw [if_pos h11] at he
        subst he
        subst h11
        simp
      · rw [if_neg h11] at he
        unfold bkStep at h
        rw [if_neg h11] at h
        cases s' with
        | nil => simp at h
        | cons y t =>
          simp only [List.headD_cons] at he
          obtain ⟨a, b, c⟩ := bk_ends r (i + 1) _ hs' y (by simp)
          rw [he] at a b c
          refine ⟨by omega, by simp only [List.length_cons]; omega, ?_⟩
          rw [show e - i = (e - (i + 1)) + 1 by omega, List.getElem?_cons_succ]
          exact c
    | succ j =>
      simp only [bkE, List.getElem?_cons_succ] at he
      obtain ⟨a, b, c⟩ := bkE_at r (i + 1) s' hs' j e he
      refine ⟨by omega, by simp only [List.length_cons]; omega, ?_⟩
      rw [show e - i = (e - (i + 1)) + 1 by omega, List.getElem?_cons_succ]
      exact c
theorem bkE_end : ∀ (l : List Int) (i j : Nat), l[j]? = some 11 → (bkE i l)[j]? = some (i + j)
  | [], i, j, h => by simp at h
  | op :: r, i, 0, h => by
    simp only [List.getElem?_cons_zero, Option.some.injEq] at h
    subst h
    simp [bkE, bkTop]
  | op :: r, i, j + 1, h => by
    simp only [List.getElem?_cons_succ] at h
    simp only [bkE, List.getElem?_cons_succ]
    rw [bkE_end r (i + 1) j h]
    congr 1
    omega
/-- How many blocks are open behind an instruction. -/
theorem bk_open {op : Int} {i : Nat} {s' st : List (Nat × Bool)} (h : bkStep i op s' = some st) : (opens op = true → op ≠ 11 ∧ s'.length = st.length + 1) ∧ (op = 11 → st.length = s'.length + 1) ∧ (opens op = false → op ≠ 11 → s'.length = st.length) := by
  have hno := opens_not op
  unfold bkStep at h
  by_cases h11 : op = 11
  · rw [if_pos h11] at h
    simp only [Option.some.injEq] at h
    subst h
    subst h11
    exact ⟨fun h => absurd rfl (hno h).2, fun _ => by simp, fun _ h => absurd rfl h⟩
  · rw [if_neg h11] at h
    cases s' with
    | nil => simp at h
    | cons y t =>
      obtain ⟨e, d⟩ := y
      simp only at h
      split at h
      · rename_i h5
        split at h
        · simp at h
        · simp only [Option.some.injEq] at h
          subst h
          exact ⟨fun h => absurd h5 (hno h).1, fun h => absurd h h11, fun _ _ => by simp⟩
      · split at h
        · rename_i ho
          split at h
          · simp at h
          · simp only [Option.some.injEq] at h
            subst h
            exact ⟨fun _ => ⟨h11, by simp⟩, fun h => absurd h h11, fun h => by rw [ho] at h; cases h⟩
        · rename_i ho
          simp only [Option.some.injEq] at h
          subst h
          exact ⟨fun h => absurd h ho, fun h => absurd h h11, fun _ _ => rfl⟩
/-- The deepest so far, one instruction on. -/
theorem bk_most {op : Int} {r : List Int} {i m D : Nat} {s' st : List (Nat × Bool)} (hs : bk (i + 1) r = some s') (h : bkStep i op s' = some st) (hm : st.length ≤ m) (hD : max m (bkD i (op :: r)) = D) : s'.length ≤ max m s'.length ∧ max (max m s'.length) (bkD (i + 1) r) = D := by
  have h1 := bk_len_le r (i + 1) s' hs
  refine ⟨Nat.le_max_right _ _, ?_⟩
  rw [← hD]
  simp only [bkD, hs, Option.getD_some]
  split
  · rename_i h11
    have h2 := (bk_open h).2.1 h11
    omega
  · omega
/-- What a body's ends are. -/
structure BodyT (L : List (Int × Int)) (E : List Nat) (D : Nat) : Prop where
  len : E.length = L.length
  ends : ∀ (i e : Nat), E[i]? = some e → i ≤ e ∧ e < L.length ∧ (ops L)[e]? = some 11 ∧ E[e]? = some e
  first : ∃ st, bk 0 (ops L) = some st ∧ st.length ≤ 1 ∧ st.length = 1 ∧ max 1 (bkD 0 (ops L)) = D
theorem body_told {L : List (Int × Int)} {E : List Nat} {D : Nat} (h : eo L = some (E, D)) : L.length ≤ 200 ∧ allG L = true ∧ BodyT L E D := by
  unfold eo at h
  split at h
  · rename_i hg
    simp only [Bool.and_eq_true, decide_eq_true_eq] at hg
    unfold bodyOf at h
    split at h
    · rename_i e he
      simp only [Option.some.injEq, Prod.mk.injEq] at h
      obtain ⟨rfl, rfl⟩ := h
      have hlen : (bkE 0 (ops L)).length = L.length := by rw [bkE_len]; simp [ops]
      refine ⟨hg.2, hg.1, hlen, fun i e2 h2 => ?_, _, he, by simp, by simp, ?_⟩
      · obtain ⟨a, b, c⟩ := bkE_at _ 0 _ he i e2 h2
        rw [Nat.sub_zero] at c
        refine ⟨by omega, by simpa [ops] using b, c, ?_⟩
        have := bkE_end (ops L) 0 e2 c
        simpa using this
      · have := bk_len_le _ 0 _ he
        simp only [List.length_cons, List.length_nil] at this
        omega
    · cases h
  · cases h

end Go.Proofs.Ytdalkbapfjpkoaa

namespace Go.Proofs.Ytdalkbapfjpkoaa
open Go.ChangeShapes Go.WideShapes Go.ChangeAt Go.RowKit

theorem insAt_below {w w' : World} {B b off : Nat} {L : List (Int × Int)} (h : Below B w w') (hb : b < B) (hL : insAt w b off L) : insAt w' b off L :=
  fun i hi => ⟨(h.cell (p := ⟨b, off + i * 2, none⟩) hb).trans (hL i hi).1, (h.cell (p := ⟨b, off + i * 2 + 1, none⟩) hb).trans (hL i hi).2⟩
theorem insAt_nil {w w' : World} {b off : Nat} {L : List (Int × Int)} (h : Below w.heap.size w w') (hb : L ≠ [] → b < w.heap.size) (hL : insAt w b off L) : insAt w' b off L := by
  by_cases e : L = []
  · subst e; intro i hi; simp at hi
  · exact insAt_below h (hb e) hL
def str (l : List UInt8) : ByteArray := ⟨l.toArray⟩
theorem str_app (l m : List UInt8) : str l ++ str m = str (l ++ m) := by
  apply ByteArray.ext; simp [str]
theorem str_size (l : List UInt8) : (str l).size = l.length := by simp [str, ByteArray.size]
/-- One byte as a string. -/
theorem byte_string (op : Int) (N : Nat) (W : World) (hc : W.cell? ⟨N, 0, none⟩ = some (.int .u8 (op % 256))) : (convert 22 9 (.slice (some ⟨N, 0, none⟩) 1 1)).run Try.prog W = .ok (.string (str [opByte op])) W := by
  have H := run_convert_bytes_back (P := Try.prog) W 22 9 5 ⟨N, 0, none⟩ 1 [opByte op] Try.underlying22 Try.underlying5 Try.underlying9 (fun j hj => by
    obtain rfl : j = 0 := by simpa using hj
    simp only [List.getElem_cons_zero]
    rw [opByte_int]
    exact hc)
  exact H
theorem leB_one (n : Nat) : leB n 1 = [opByte (n : Int)] := by
  unfold leB opByte
  simp
  apply UInt8.toNat_inj.1
  rw [UInt8.toNat_ofNat', UInt8.toNat_ofNat']
  omega

set_option maxRecDepth 100000 in
set_option maxHeartbeats 3200000 in
theorem specBytes (a : Option Addr) (b off cap : Nat) (L : List (Int × Int)) (w : World) (ha : Hid (L ≠ [] → a = some ⟨b, off, none⟩ ∧ b < w.heap.size)) (hL : insAt w b off L) (hf : fits L) (hlen : L.length ≤ 200) (hA : Hid (allG L = true)) :
    Calls Try.prog 20 #[.slice a L.length cap] w fun e w' => e = .returned (.string (str (cb L))) ∧ Below w.heap.size w w' := by
  go_enter Try.func20, Try.ntmps20
  go_wp2
  go_loopw [3, 8] (fun v i wr => ∃ (k : Nat) (cs : List UInt8), k ≤ L.length ∧ i = .int .i64 k ∧ v = .string (str cs) ∧ Hid (cs = cb (L.take k)) ∧ cs.length ≤ 11 * k ∧ Below w.heap.size w wr) (fun _ i _ => L.length - (intOf i).toNat)
  case atStart => exact ⟨0, [], by omega, rfl, rfl, by simp [Hid, cb], by simp, Below.refl _ _⟩
  case round =>
    obtain ⟨k, cs, hk, rfl, rfl, hcs, hcl, hnx⟩ := hrel
    have hsz := hnx.size
    by_cases hlt : k < L.length
    · obtain ⟨rfl, hb⟩ := ha.out (fun h => by simp [h] at hlt)
      have hc := hL k hlt
      have hfk := hf k hlt
      have hsn := cb_snoc L k hlt
      have hgk := allG_at L k hlt hA.out
      obtain ⟨x, hx⟩ : ∃ x, x = L[k] := ⟨_, rfl⟩
      rw [← hx] at hc hfk hsn hgk
      obtain ⟨op, y⟩ := x
      clear hx
      simp only at hc hfk hsn hgk
      have HS : Hid (cb (L.take (k + 1)) = (cs ++ [opByte op]) ++ ob (shp op) y) := by
        unfold Hid; rw [hsn, hcs.out]; simp [ib]
      clear hsn
      have hc0 : wr.cell? ⟨b, off + k * 2, none⟩ = some (.int .i64 op) := (hnx.cell (by exact hb)).trans hc.1
      have hc1 : wr.cell? ⟨b, off + k * 2 + 1, none⟩ = some (.int .i64 y) := (hnx.cell (by exact hb)).trans hc.2
      have O := specShape op
      have hol := ob_len (shp op) y
      have hkd := kinds_of hgk
      have hmk : mayK (shp op) y = true := hgk
      have hcv := byte_string op
      have ha1 := str_app cs [opByte op]
      have hcl2 : cs.length ≤ 2200 := by omega
      have hs1 := str_size cs
      have hs2 : (str [opByte op]).size = 1 := rfl
      have hs3 : (str (cs ++ [opByte op])).size = cs.length + 1 := by rw [str_size]; simp
      have HX : Hid (Below w.heap.size w wr) := hnx
      clear hc hgk
      generalize shp op = sk at O HS hol hkd hmk
      rcases hkd with rfl | rfl | rfl | rfl | rfl | rfl | rfl
      · have HS2 : Hid (cb (L.take (k + 1)) = cs ++ [opByte op]) := by unfold Hid; rw [HS.out]; simp [ob]
        clear HS hmk hol hfk hs3
        go_wp2_with (go_at_call 34; refine (O _).mono ?_; rintro e w1 ⟨rfl, hw⟩; obtain rfl := hw.symm; clear O)
        go_roundw
        case rel =>
          refine ⟨k + 1, _, by omega, by go_num, rfl, HS2.out.symm, by simp; omega, ?_⟩
          exact bel_alloc (bel_alloc HX.out _) _
        case measure => simp [intOf]; omega
      · obtain ⟨g0, g1⟩ := may_nat (by omega) hmk
        obtain ⟨n, rfl⟩ : ∃ n : Nat, y = n := ⟨y.toNat, by omega⟩
        have hcv2 := byte_string (n : Int)
        have HS2 : Hid (cb (L.take (k + 1)) = (cs ++ [opByte op]) ++ [opByte (n : Int)]) := by unfold Hid; rw [HS.out]; simp [ob, leB_one]
        have ha2 := str_app (cs ++ [opByte op]) [opByte (n : Int)]
        have hs4 : (str [opByte (n : Int)]).size = 1 := rfl
        clear HS hmk hol g0 g1
        clear hfk
        go_wp2_with (go_at_call 34; refine (O _).mono ?_; rintro e w1 ⟨rfl, hw⟩; obtain rfl := hw.symm; clear O)
        go_roundw
        case rel =>
          refine ⟨k + 1, _, by omega, by go_num, rfl, by unfold Hid; rw [HS2.out]; simp, by simp; omega, ?_⟩
          exact bel_alloc (bel_alloc (bel_alloc HX.out _) _) _
        case measure => simp [intOf]; omega
      · obtain ⟨g0, g1⟩ := may_nat (by omega) hmk
        obtain ⟨n, rfl⟩ : ∃ n : Nat, y = n := ⟨y.toNat, by omega⟩
        have hwn : IntKind.u64.wrap (n : Int) = n := by rw [IntKind.wrap_u64]; omega
        have HS2 : Hid (cb (L.take (k + 1)) = (cs ++ [opByte op]) ++ ul 10 n) := by unfold Hid; rw [HS.out]; rfl
        have hol2 : (ul 10 n).length ≤ 10 := ul_len 10 _
        have H : Hid (∀ w : World, Calls Try.prog 35 #[.int .u64 (n : Int)] w fun e w' => e = .returned (.string (str (ul 10 n))) ∧ Below w.heap.size w w') := fun w => specUleb n (by unfold Hid; omega) w
        generalize ul 10 n = os at H HS2 hol2
        have ha2 := str_app (cs ++ [opByte op]) os
        have hs4 := str_size os
        clear HS hmk hol g0 g1
        clear hfk
        go_wp2_with (first | (go_at_call 34; refine (O _).mono ?_; rintro e w1 ⟨rfl, hw⟩; obtain rfl := hw.symm; clear O) | (go_at_call 35; refine (H.out _).mono ?_; rintro e w2 ⟨rfl, hb2⟩; clear H))
        go_roundw
        case rel =>
          refine ⟨k + 1, _, by omega, by go_num, rfl, by unfold Hid; rw [HS2.out]; simp, by simp; omega, ?_⟩
          exact below2 (bel_alloc (bel_alloc HX.out _) _) hb2
        case measure => simp [intOf]; omega
      · obtain ⟨g0, g1⟩ := may_nat (by omega) hmk
        obtain ⟨n, rfl⟩ : ∃ n : Nat, y = n := ⟨y.toNat, by omega⟩
        have hwn : IntKind.u64.wrap (n : Int) = n := by rw [IntKind.wrap_u64]; omega
        have HS2 : Hid (cb (L.take (k + 1)) = (cs ++ [opByte op]) ++ ul 10 n) := by unfold Hid; rw [HS.out]; rfl
        have hol2 : (ul 10 n).length ≤ 10 := ul_len 10 _
        have H : Hid (∀ w : World, Calls Try.prog 35 #[.int .u64 (n : Int)] w fun e w' => e = .returned (.string (str (ul 10 n))) ∧ Below w.heap.size w w') := fun w => specUleb n (by unfold Hid; omega) w
        generalize ul 10 n = os at H HS2 hol2
        have ha2 := str_app (cs ++ [opByte op]) os
        have hs4 := str_size os
        clear HS hmk hol g0 g1
        clear hfk
        go_wp2_with (first | (go_at_call 34; refine (O _).mono ?_; rintro e w1 ⟨rfl, hw⟩; obtain rfl := hw.symm; clear O) | (go_at_call 35; refine (H.out _).mono ?_; rintro e w2 ⟨rfl, hb2⟩; clear H))
        go_roundw
        case rel =>
          refine ⟨k + 1, _, by omega, by go_num, rfl, by unfold Hid; rw [HS2.out]; simp, by simp; omega, ?_⟩
          exact below2 (bel_alloc (bel_alloc HX.out _) _) hb2
        case measure => simp [intOf]; omega
      · have HS2 : Hid (cb (L.take (k + 1)) = (cs ++ [opByte op]) ++ sl 10 y) := by unfold Hid; rw [HS.out]; rfl
        have hol2 : (sl 10 y).length ≤ 10 := sl_len 10 _
        have H : Hid (∀ w : World, Calls Try.prog 36 #[.int .i64 y] w fun e w' => e = .returned (.string (str (sl 10 y))) ∧ Below w.heap.size w w') := fun w => specSleb y (sfit_i64 y hfk.1 hfk.2) w
        generalize sl 10 y = os at H HS2 hol2
        have ha2 := str_app (cs ++ [opByte op]) os
        have hs4 := str_size os
        clear HS hmk hol
        clear hfk
        go_wp2_with (first | (go_at_call 34; refine (O _).mono ?_; rintro e w1 ⟨rfl, hw⟩; obtain rfl := hw.symm; clear O) | (go_at_call 36; refine (H.out _).mono ?_; rintro e w2 ⟨rfl, hb2⟩; clear H))
        go_roundw
        case rel =>
          refine ⟨k + 1, _, by omega, by go_num, rfl, by unfold Hid; rw [HS2.out]; simp, by simp; omega, ?_⟩
          exact below2 (bel_alloc (bel_alloc HX.out _) _) hb2
        case measure => simp [intOf]; omega
      · have HS2 : Hid (cb (L.take (k + 1)) = (cs ++ [opByte op]) ++ sl 10 y) := by unfold Hid; rw [HS.out]; rfl
        have hol2 : (sl 10 y).length ≤ 10 := sl_len 10 _
        have H : Hid (∀ w : World, Calls Try.prog 36 #[.int .i64 y] w fun e w' => e = .returned (.string (str (sl 10 y))) ∧ Below w.heap.size w w') := fun w => specSleb y (sfit_i64 y hfk.1 hfk.2) w
        generalize sl 10 y = os at H HS2 hol2
        have ha2 := str_app (cs ++ [opByte op]) os
        have hs4 := str_size os
        clear HS hmk hol
        clear hfk
        go_wp2_with (first | (go_at_call 34; refine (O _).mono ?_; rintro e w1 ⟨rfl, hw⟩; obtain rfl := hw.symm; clear O) | (go_at_call 36; refine (H.out _).mono ?_; rintro e w2 ⟨rfl, hb2⟩; clear H))
        go_roundw
        case rel =>
          refine ⟨k + 1, _, by omega, by go_num, rfl, by unfold Hid; rw [HS2.out]; simp, by simp; omega, ?_⟩
          exact below2 (bel_alloc (bel_alloc HX.out _) _) hb2
        case measure => simp [intOf]; omega
      · obtain ⟨g0, g1⟩ := may_nat (by omega) hmk
        obtain ⟨n, rfl⟩ : ∃ n : Nat, y = n := ⟨y.toNat, by omega⟩
        have hwn : IntKind.u64.wrap (n : Int) = n := by rw [IntKind.wrap_u64]; omega
        have HS2 : Hid (cb (L.take (k + 1)) = (cs ++ [opByte op]) ++ leB n 4) := by unfold Hid; rw [HS.out]; rfl
        have hol2 : (leB n 4).length ≤ 10 := (by rw [leB_len]; omega)
        have H : Hid (∀ w : World, Calls Try.prog 37 #[.int .u64 (n : Int), .int .i64 4] w fun e w' => e = .returned (.string (str (leB n 4))) ∧ Below w.heap.size w w') := fun w => l5Bytes n 4 (by omega) w
        generalize leB n 4 = os at H HS2 hol2
        have ha2 := str_app (cs ++ [opByte op]) os
        have hs4 := str_size os
        clear HS hmk hol g0 g1
        clear hfk
        go_wp2_with (first | (go_at_call 34; refine (O _).mono ?_; rintro e w1 ⟨rfl, hw⟩; obtain rfl := hw.symm; clear O) | (go_at_call 37; refine (H.out _).mono ?_; rintro e w2 ⟨rfl, hb2⟩; clear H))
        go_roundw
        case rel =>
          refine ⟨k + 1, _, by omega, by go_num, rfl, by unfold Hid; rw [HS2.out]; simp, by simp; omega, ?_⟩
          exact below2 (bel_alloc (bel_alloc HX.out _) _) hb2
        case measure => simp [intOf]; omega
    · have e : L.take k = L := List.take_of_length_le (by omega)
      have hcs' := hcs.out
      rw [e] at hcs'
      subst hcs'
      clear hcs e
      go_wp2
      go_ret
      exact ⟨rfl, hnx⟩

set_option maxRecDepth 100000 in
set_option maxHeartbeats 800000 in
theorem specCode (a : Option Addr) (b off cap : Nat) (L : List (Int × Int)) (w : World) (ha : Hid (L ≠ [] → a = some ⟨b, off, none⟩ ∧ b < w.heap.size)) (hL : insAt w b off L) (hf : fits L) (hlen : L.length ≤ 1048576) :
    Calls Try.prog 6 #[.slice a L.length cap] w fun e w' => e = .returned (codeRes L) ∧ Below w.heap.size w w' := by
  have HG := specAll a b off cap L w ha hL hlen
  by_cases hg : (allG L && decide (L.length ≤ 200)) = true
  · have hR : codeRes L = .tuple #[.string (str (cb L)), .bool true] := if_pos hg
    rw [hR]
    rw [hg] at HG
    simp only [Bool.and_eq_true, decide_eq_true_eq] at hg
    obtain ⟨hg1, hg2⟩ := hg
    clear hR
    go_enter Try.func6, Try.ntmps6
    go_wp2_with fail
    refine HG.mono ?_
    rintro e w0 ⟨rfl, hb0⟩
    have SB := specBytes a b off cap L w0 (fun h => ⟨(ha.out h).1, Nat.lt_of_lt_of_le (ha.out h).2 hb0.size⟩) (insAt_nil hb0 (fun h => (ha.out h).2) hL) hf hg2 hg1
    have HB : Hid (Below w.heap.size w w0) := hb0
    clear HG hb0
    go_wp2_with fail
    refine SB.mono ?_
    rintro e w1 ⟨rfl, hb1⟩
    go_wp2
    go_ret2
    exact ⟨rfl, below2 HB.out hb1⟩
  · have hR : codeRes L = .tuple #[.string ⟨#[]⟩, .bool false] := if_neg hg
    rw [hR]
    have hg' : (allG L && decide (L.length ≤ 200)) = false := by simpa using hg
    rw [hg'] at HG
    clear hg hg'
    go_enter Try.func6, Try.ntmps6
    go_wp2_with (go_at_call 19; refine HG.mono ?_; rintro e w0 ⟨rfl, hb0⟩; clear HG)
    go_ret2
    exact ⟨rfl, by assumption⟩

end Go.Proofs.Ytdalkbapfjpkoaa
