/-
  Texts of values: a plain model, and how long they are.
-/
import Derived.Test.YtljnciclbjcinaaGreatDoorVA
import Derived.Test.YtljnciclbjcinaaGreatDoorYTx1
import Derived.Test.YtljnciclbjcinaaGreatDoorOwn
import Derived.Deep.RegionWith
import Derived.Test.YtljnciclbjcinaaGreatDoorQHeld
import Derived.Test.YtljnciclbjcinaaGreatDoorYSh
import Derived.Test.YtljnciclbjcinaaGreatDoorVB
namespace Go.Proofs.YtljnciclbjcinaaGreatDoor

/-- A number in digits, signed; one of 64 bits without a sign. -/
def itx (n : Int) : List UInt8 := Lib.itoa n
def utx (n : Int) : List UInt8 := if 0 ≤ n then Lib.decDigits n.toNat else Lib.decDigits (n + 18446744073709551616).toNat
def plainB (c : UInt8) : Bool := decide (32 ≤ c.toNat) && decide (c.toNat ≤ 126) && !(c == 34) && !(c == 92)
def hexB (n : Nat) : UInt8 := if n < 10 then UInt8.ofNat (48 + n) else UInt8.ofNat (87 + n)
def qch (c : UInt8) : List UInt8 := if plainB c = true then [c] else [92, hexB (c.toNat / 16), hexB (c.toNat % 16)]
def qtx (s : List UInt8) : List UInt8 := 34 :: (s.flatMap qch ++ [34])
/-- What is told ahead of the parts; behind them. -/
def frx (x : Int) (n : Int) (s : List UInt8) : List UInt8 :=
  if x = 1 then (if n = 1 then [116, 114, 117, 101] else [102, 97, 108, 115, 101])
  else if x = 8 then utx n
  else if x = 12 then qtx s
  else if x = 13 then [91]
  else if x = 14 then [40]
  else if x = 15 then itx n ++ [58]
  else if x = 17 then (if n = 0 then [110, 111, 110, 101] else [115, 111, 109, 101, 58])
  else if x = 18 then (if n = 0 then [111, 107, 58] else [101, 114, 114, 58])
  else itx n
def enx (x : Int) : List UInt8 := if x = 13 then [93] else if x = 14 then [41] else []
theorem enx_len (x : Int) : (enx x).length ≤ 1 := by
  unfold enx
  split
  · simp
  · split <;> simp
/-- Texts with commas between. -/
def jn : List (List UInt8) → List UInt8
  | [] => []
  | t :: r => t ++ r.flatMap (fun u => 44 :: u)
theorem jn_snoc (l : List (List UInt8)) (t : List UInt8) : jn (l ++ [t]) = jn l ++ ((if l = [] then [] else [44]) ++ t) := by
  cases l with
  | nil => simp [jn]
  | cons a r => simp [jn, List.flatMap_append]
def vtx (L : List Nd) (V : List Vn) : Nat → Nat → Nat → List UInt8
  | 0, _, _ => []
  | f + 1, k, v => frx (kdAt L k) (vnAt V v) (vtAt V v).data.toList ++ (jn (((tk (kdAt L k) (kidsOf L k) (vnAt V v) (kV V v).length).zip (kV V v)).map fun p => vtx L V f p.1 p.2) ++ enx (kdAt L k))
theorem vtx_succ (L : List Nd) (V : List Vn) (f k v : Nat) : vtx L V (f + 1) k v = frx (kdAt L k) (vnAt V v) (vtAt V v).data.toList ++ (jn (((tk (kdAt L k) (kidsOf L k) (vnAt V v) (kV V v).length).zip (kV V v)).map fun p => vtx L V f p.1 p.2) ++ enx (kdAt L k)) := rfl

theorem dec_20 : ∀ (d u : Nat), u < 10 ^ d → 1 ≤ d → (Lib.decDigits u).length ≤ d
  | 0, _, _, h => absurd h (by omega)
  | d + 1, u, h, _ => by
    by_cases h10 : u < 10
    · rw [dec_small h10]; simp
    · rw [dec_more h10, List.length_append]
      have hd : 1 ≤ d := by
        rcases Nat.eq_zero_or_pos d with e | e
        · subst e; simp at h; omega
        · exact e
      have := dec_20 d (u / 10) (by rw [Nat.pow_succ] at h; omega) hd
      simp
      omega
theorem qtx_len (s : List UInt8) : (qtx s).length ≤ 3 * s.length + 2 := by
  unfold qtx
  have : (s.flatMap qch).length ≤ 3 * s.length := by
    induction s with
    | nil => simp
    | cons c r ih =>
      rw [List.flatMap_cons, List.length_append, List.length_cons]
      have : (qch c).length ≤ 3 := by unfold qch; split <;> simp
      omega
  rw [List.length_cons, List.length_append, List.length_singleton]
  omega
theorem itx_len {n : Int} (h0 : -9223372036854775808 ≤ n) (h1 : n ≤ 9223372036854775807) : (itx n).length ≤ 21 := by
  unfold itx Lib.itoa
  split
  · rw [List.length_cons]; have := dec_20 20 n.natAbs (by omega) (by omega); omega
  · have := dec_20 20 n.toNat (by omega) (by omega); omega
theorem utx_len {n : Int} (h0 : -9223372036854775808 ≤ n) (h1 : n ≤ 9223372036854775807) : (utx n).length ≤ 20 := by
  unfold utx
  split
  · exact dec_20 20 n.toNat (by omega) (by omega)
  · exact dec_20 20 _ (by omega) (by omega)
theorem frx_len {x n : Int} {s : List UInt8} (h0 : -9223372036854775808 ≤ n) (h1 : n ≤ 9223372036854775807) (hs : s.length ≤ 1048576) : (frx x n s).length ≤ 3145730 := by
  have a := itx_len h0 h1
  have b := utx_len h0 h1
  have c := qtx_len s
  unfold frx
  repeat' split
  all_goals first | omega | (simp; done) | (simp; omega)
theorem jn_len : ∀ (l : List (List UInt8)), (jn l).length ≤ (l.map (fun t => t.length + 1)).sum
  | [] => by simp [jn]
  | t :: r => by
    have : (r.flatMap (fun u => 44 :: u)).length = (r.map (fun t => t.length + 1)).sum := by
      induction r with
      | nil => rfl
      | cons a r ih => simp [List.flatMap_cons, ih]; omega
    simp [jn, this]
theorem zip_sum (g : Nat → Nat → Nat) (h : Nat → Nat) : ∀ (ks vs : List Nat), (∀ v ∈ vs, ∀ k, g k v ≤ h v) → ((ks.zip vs).map fun p => g p.1 p.2).sum ≤ (vs.map h).sum
  | [], vs, _ => by simp
  | k :: ks, [], _ => by simp
  | k :: ks, v :: vs, H => by
    have := zip_sum g h ks vs (fun u hu => H u (by simp [hu]))
    have := H v (by simp) k
    simp
    omega
/-- What lies within a node, part by part. -/
theorem kto_sum {U : Nat → Int} {n p K : Nat} (h : Nat → Nat) (H : ∀ j, p < j → j < n → h j ≤ K * (nxt U n j (j + 1) - j)) : ∀ (d m : Nat), n - m ≤ d → p < m → m ≤ n → ((kto U p m).map h).sum ≤ K * (m - (p + 1)) → ((kto U p (nxt U n p m)).map h).sum ≤ K * (nxt U n p m - (p + 1))
  | d, m, hd, hp, hm, h0 => by
    by_cases hy : m < n ∧ U m = (p : Int)
    · rw [nxt_yes hy.1 hy.2]
      have hge := nxt_ge U n m (m + 1)
      have hle := nxt_le (U := U) (a := m) (show m + 1 ≤ n by omega)
      cases d with
      | zero => omega
      | succ d =>
        refine kto_sum h H d (nxt U n m (m + 1)) (by omega) (by omega) hle ?_
        rw [kto_step hp hy.2, List.map_append, List.sum_append]
        have hj := H m hp hy.1
        have e : K * (nxt U n m (m + 1) - (p + 1)) = K * (m - (p + 1)) + K * (nxt U n m (m + 1) - m) := by
          rw [← Nat.mul_add]; congr 1; omega
        simp
        omega
    · rw [nxt_no hy]
      exact h0
theorem vtx_len {L : List Nd} {V : List Vn} (hs : shpV (vuAt V) V.length = true) (hb : ∀ v, -9223372036854775808 ≤ vnAt V v ∧ vnAt V v ≤ 9223372036854775807) (ht : ∀ v, (vtAt V v).size ≤ 1048576) : ∀ (f k v : Nat), v < V.length → (vtx L V f k v).length + 1 ≤ 3145740 * (nxt (vuAt V) V.length v (v + 1) - v)
  | 0, k, v, hv => by
    have := nxt_ge (vuAt V) V.length v (v + 1)
    have h1 : 1 ≤ nxt (vuAt V) V.length v (v + 1) - v := by omega
    have : 3145740 * 1 ≤ 3145740 * (nxt (vuAt V) V.length v (v + 1) - v) := Nat.mul_le_mul_left _ h1
    simp [vtx]
    omega
  | f + 1, k, v, hv => by
    rw [vtx_succ, List.length_append, List.length_append]
    have hf := frx_len (x := kdAt L k) (s := (vtAt V v).data.toList) (hb v).1 (hb v).2 (by have := ht v; simpa using this)
    have he := enx_len (kdAt L k)
    have hj := jn_len (((tk (kdAt L k) (kidsOf L k) (vnAt V v) (kV V v).length).zip (kV V v)).map fun p => vtx L V f p.1 p.2)
    rw [List.map_map] at hj
    have hge := nxt_ge (vuAt V) V.length v (v + 1)
    have key : (((tk (kdAt L k) (kidsOf L k) (vnAt V v) (kV V v).length).zip (kV V v)).map ((fun t => t.length + 1) ∘ fun p => vtx L V f p.1 p.2)).sum ≤ 3145740 * (nxt (vuAt V) V.length v (v + 1) - (v + 1)) := by
      refine Nat.le_trans (zip_sum (fun k' v' => (vtx L V f k' v').length + 1) (fun j => 3145740 * (nxt (vuAt V) V.length j (j + 1) - j)) _ _ (fun v' hv' k' => vtx_len hs hb ht f k' v' (kto_mem.1 hv').1)) ?_
      unfold kV
      rw [← kto_all hs hv]
      refine kto_sum _ (fun j _ _ => Nat.le_refl _) V.length (v + 1) (by omega) (by omega) (by omega) ?_
      rw [kto_nil]
      simp
    have e : 3145740 * (nxt (vuAt V) V.length v (v + 1) - v) = 3145740 * (nxt (vuAt V) V.length v (v + 1) - (v + 1)) + 3145740 := by
      have : nxt (vuAt V) V.length v (v + 1) - v = (nxt (vuAt V) V.length v (v + 1) - (v + 1)) + 1 := by omega
      rw [this, Nat.mul_add]
    omega

end Go.Proofs.YtljnciclbjcinaaGreatDoor

namespace Go.Proofs.YtljnciclbjcinaaGreatDoor
open Go.ChangeShapes Go.WideShapes Go.ChangeAt Go.RowKit

set_option maxRecDepth 100000 in
set_option maxHeartbeats 6400000 in
theorem specNumB_more (u : Nat) (h : ¬ u < 10) (hu : u ≤ 9223372036854775807) (ih : ∀ W : World, Calls Tryz.prog 41 #[.int .i64 ((u / 10 : Nat) : Int)] W fun e w' => e = .returned (.string ⟨(Lib.decDigits (u / 10)).toArray⟩) ∧ Below W.heap.size W w') (w : World) :
    Calls Tryz.prog 41 #[.int .i64 (u : Int)] w fun e w' => e = .returned (.string ⟨(Lib.decDigits u).toArray⟩) ∧ Below w.heap.size w w' := by
  have hq : (⟨(Lib.decDigits u).toArray⟩ : ByteArray) = ⟨(Lib.decDigits (u / 10)).toArray⟩ ++ ⟨#[UInt8.ofNat (48 + u % 10)]⟩ := by
    rw [dec_more h]; apply ByteArray.ext; simp
  obtain ⟨R, hR⟩ : ∃ R : ByteArray, (⟨(Lib.decDigits u).toArray⟩ : ByteArray) = R := ⟨_, rfl⟩
  rw [hR] at hq ⊢
  have HU : Hid (∀ W : World, Calls Tryz.prog 41 #[.int .i64 ((u / 10 : Nat) : Int)] W fun e w' => e = .returned (.string ⟨(Lib.decDigits (u / 10)).toArray⟩) ∧ Below W.heap.size W w') := ih
  have HC1 : Hid (∀ (N : Nat) (W : World), W.cell? ⟨N, 0, none⟩ = some (.int .u8 ((48 + u % 10 : Nat) : Int)) → (convert 67 9 (.slice (some ⟨N, 0, none⟩) 1 1)).run Tryz.prog W = .ok (.string ⟨#[UInt8.ofNat (48 + u % 10)]⟩) W) := fun N W h => oneStr _ (by omega) N W h
  have HQ : Hid (⟨(Lib.decDigits (u / 10)).toArray⟩ ++ ⟨#[UInt8.ofNat (48 + u % 10)]⟩ = R) := hq.symm
  obtain ⟨Z, hZ⟩ : ∃ Z : ByteArray, ⟨#[UInt8.ofNat (48 + u % 10)]⟩ = Z := ⟨_, rfl⟩
  obtain ⟨Q, hQ⟩ : ∃ Q : ByteArray, (⟨(Lib.decDigits (u / 10)).toArray⟩ : ByteArray) = Q := ⟨_, rfl⟩
  rw [hZ] at HC1 HQ
  rw [hQ] at HU HQ
  have zs : Z.size = 1 := by rw [← hZ]; rfl
  have qs : Q.size ≤ 922337203685477582 := by rw [← hQ]; show (Lib.decDigits (u / 10)).toArray.size ≤ _; have := dec_len (u / 10) (u / 10) (Nat.le_refl _); simp; omega
  obtain ⟨r, hr⟩ : ∃ r : Nat, u % 10 = r := ⟨_, rfl⟩
  have hr10 : r < 10 := by omega
  rw [hr] at HC1
  obtain ⟨d, hd⟩ : ∃ d : Nat, 48 + r = d := ⟨_, rfl⟩
  rw [hd] at HC1
  obtain ⟨v, hv⟩ : ∃ v : Nat, u / 10 = v := ⟨_, rfl⟩
  rw [hv] at HU
  have k1 : Int.tdiv (u : Int) 10 = (v : Int) := by rw [← hv]; rfl
  have k2 : Int.tmod (u : Int) 10 = (r : Int) := by rw [← hr]; rfl
  have k3 : IntKind.u8.wrap (48 + (r : Int)) = (d : Int) := by rw [IntKind.wrap_u8]; omega
  have k4 : IntKind.i64.wrap (48 + (r : Int)) = 48 + (r : Int) := by rw [IntKind.wrap_i64]; omega
  have k5 : IntKind.i64.wrap (v : Int) = (v : Int) := by rw [IntKind.wrap_i64]; omega
  have k6 : IntKind.i64.wrap (r : Int) = (r : Int) := by rw [IntKind.wrap_i64]; omega
  have n0 : ¬ (u : Int) < 0 := by omega
  have n1 : ¬ (u : Int) < 10 := by omega
  clear hq hZ hQ ih hR hd hv hr
  go_enter Tryz.func41, Tryz.ntmps41
  go_wp2_with fail
  refine wh_begin (fun _ => True) (by kernel_rfl) ?_
  refine wh_take 0 (some 18) (.int .i64 (u : Int)) rfl rfl (by kernel_rfl) (by kernel_rfl) (by kernel_rfl) (fun _ _ _ h => h) trivial (by rfl) (fun w' hS => by first | rfl | (go_simp; done) | (go_simp; omega)) ?_
  simp only [Act.put, List.setIfInBounds_toArray, List.set_cons_zero, List.set_cons_succ]
  refine wh_take 1 (some 19) (.int .i64 (v : Int)) rfl rfl (by kernel_rfl) (by kernel_rfl) (by kernel_rfl) (fun _ _ _ h => h) trivial (by rfl) (fun w' hS => by first | rfl | (go_simp; done) | (go_simp; omega)) ?_
  simp only [Act.put, List.setIfInBounds_toArray, List.set_cons_zero, List.set_cons_succ]
  refine wh_take 3 (some 21) (.int .i64 (u : Int)) rfl rfl (by kernel_rfl) (by kernel_rfl) (by kernel_rfl) (fun _ _ _ h => h) trivial (by rfl) (fun w' hS => by first | rfl | (go_simp; done) | (go_simp; omega)) ?_
  simp only [Act.put, List.setIfInBounds_toArray, List.set_cons_zero, List.set_cons_succ]
  refine wh_take 4 (some 22) (.int .i64 (r : Int)) rfl rfl (by kernel_rfl) (by kernel_rfl) (by kernel_rfl) (fun _ _ _ h => h) trivial (by rfl) (fun w' hS => by first | rfl | (go_simp; done) | (go_simp; omega)) ?_
  simp only [Act.put, List.setIfInBounds_toArray, List.set_cons_zero, List.set_cons_succ]
  refine wh_take 5 (some 23) (.int .i64 (48 + (r : Int))) rfl rfl (by kernel_rfl) (by kernel_rfl) (by kernel_rfl) (fun _ _ _ h => h) trivial (by rfl) (fun w' hS => by first | rfl | (go_simp; done) | (go_simp; omega)) ?_
  simp only [Act.put, List.setIfInBounds_toArray, List.set_cons_zero, List.set_cons_succ]
  refine wh_take 6 (some 24) (.int .u8 (d : Int)) rfl rfl (by kernel_rfl) (by kernel_rfl) (by kernel_rfl) (fun _ _ _ h => h) trivial (by rfl) (fun w' hS => by first | rfl | (go_simp; done) | (go_simp; omega)) ?_
  simp only [Act.put, List.setIfInBounds_toArray, List.set_cons_zero, List.set_cons_succ]
  refine wh_two 2 7 (by kernel_rfl) ?_ ?_
  · refine wo_call (some 20) 41 #[.int .i64 (v : Int)] rfl rfl (by rfl) (by kernel_rfl) ?_
    refine (HU.out _).mono ?_
    rintro e VB ⟨rfl, hbB⟩
    have hbV : Below w.heap.size w VB := ⟨hbB.os, hbB.tape, hbB.output, hbB.size, hbB.block⟩
    refine ⟨_, rfl, trivial, ?_⟩
    simp only [Act.put, List.setIfInBounds_toArray, List.set_cons_zero, List.set_cons_succ]
    have hNA : (VB.alloc (.cells #[.int .u8 (d : Int)] 5)).heap[VB.heap.size]? = some (.cells #[.int .u8 (d : Int)] 5 (0, 0)) := heap_alloc_new _ _
    have hbA : Below w.heap.size w (VB.alloc (.cells #[.int .u8 (d : Int)] 5)) := hbV.alloc hbV.size _
    refine wh_val 7 (some 25) (.slice (some ⟨VB.heap.size, 0, none⟩) 1 1) (VB.alloc (.cells #[.int .u8 (d : Int)] 5)) (by kernel_rfl) rfl rfl (by rfl) (by first | rfl | go_simp) trivial ?_
    simp only [Act.put, List.setIfInBounds_toArray, List.set_cons_zero, List.set_cons_succ]
    generalize VB.alloc (.cells #[.int .u8 (d : Int)] 5) = VA at hNA hbA ⊢
    generalize VB.heap.size = N at hNA ⊢
    have hcA := HC1.out N VA ((cell_of_block hNA 0).trans rfl)
    refine wh_val 8 (some 26) (.string Z) VA (by kernel_rfl) rfl rfl (by rfl) (by first | rfl | go_simp) trivial ?_
    simp only [Act.put, List.setIfInBounds_toArray, List.set_cons_zero, List.set_cons_succ]
    refine wh_take 9 (some 27) (.string (Q ++ Z)) rfl rfl (by kernel_rfl) (by kernel_rfl) (by kernel_rfl) (fun _ _ _ h => h) trivial (by rfl) (fun w' hS => by first | rfl | (go_simp; done) | (go_simp; omega)) ?_
    simp only [Act.put, List.setIfInBounds_toArray, List.set_cons_zero, List.set_cons_succ]
    refine wh_val 10 (some 2) (.string (Q ++ Z)) VA (by kernel_rfl) rfl rfl (by rfl) (by first | rfl | go_simp) trivial ?_
    simp only [Act.put, List.setIfInBounds_toArray, List.set_cons_zero, List.set_cons_succ]
    refine wh_done (by kernel_rfl) ?_
    have HE : Hid (Below w.heap.size w VA) := hbA
    clear HU HC1
    go_wp2
    go_ret
    exact ⟨by rw [← HQ.out]; rfl, HE.out⟩
  · have hNA : (w.drew.alloc (.cells #[.int .u8 (d : Int)] 5)).heap[w.drew.heap.size]? = some (.cells #[.int .u8 (d : Int)] 5 (0, 0)) := heap_alloc_new _ _
    have hbA : Below w.heap.size w (w.drew.alloc (.cells #[.int .u8 (d : Int)] 5)) := ((Below.refl w.heap.size w).drew).alloc (Nat.le_refl _) _
    refine wo_val (some 25) (.slice (some ⟨w.drew.heap.size, 0, none⟩) 1 1) (w.drew.alloc (.cells #[.int .u8 (d : Int)] 5)) rfl rfl (by rfl) (by first | rfl | go_simp) trivial ?_
    simp only [Act.put, List.setIfInBounds_toArray, List.set_cons_zero, List.set_cons_succ]
    generalize w.drew.alloc (.cells #[.int .u8 (d : Int)] 5) = VA at hNA hbA ⊢
    generalize w.drew.heap.size = N at hNA ⊢
    have hcA := HC1.out N VA ((cell_of_block hNA 0).trans rfl)
    refine wh_two 2 8 (by kernel_rfl) ?_ ?_
    · refine wo_call (some 20) 41 #[.int .i64 (v : Int)] rfl rfl (by rfl) (by kernel_rfl) ?_
      refine (HU.out _).mono ?_
      rintro e VB ⟨rfl, hbB⟩
      have hbV : Below w.heap.size w VB := below2 hbA hbB
      have hNB := (hbB.block N (lt_of_block hNA)).trans hNA
      have hcB := HC1.out N VB ((cell_of_block hNB 0).trans rfl)
      refine ⟨_, rfl, trivial, ?_⟩
      simp only [Act.put, List.setIfInBounds_toArray, List.set_cons_zero, List.set_cons_succ]
      refine wh_val 8 (some 26) (.string Z) VB (by kernel_rfl) rfl rfl (by rfl) (by first | rfl | go_simp) trivial ?_
      simp only [Act.put, List.setIfInBounds_toArray, List.set_cons_zero, List.set_cons_succ]
      refine wh_take 9 (some 27) (.string (Q ++ Z)) rfl rfl (by kernel_rfl) (by kernel_rfl) (by kernel_rfl) (fun _ _ _ h => h) trivial (by rfl) (fun w' hS => by first | rfl | (go_simp; done) | (go_simp; omega)) ?_
      simp only [Act.put, List.setIfInBounds_toArray, List.set_cons_zero, List.set_cons_succ]
      refine wh_val 10 (some 2) (.string (Q ++ Z)) VB (by kernel_rfl) rfl rfl (by rfl) (by first | rfl | go_simp) trivial ?_
      simp only [Act.put, List.setIfInBounds_toArray, List.set_cons_zero, List.set_cons_succ]
      refine wh_done (by kernel_rfl) ?_
      have HE : Hid (Below w.heap.size w VB) := hbV
      clear HU HC1
      go_wp2
      go_ret
      exact ⟨by rw [← HQ.out]; rfl, HE.out⟩
    · refine wo_val (some 26) (.string Z) VA rfl rfl (by rfl) (by first | rfl | go_simp) trivial ?_
      simp only [Act.put, List.setIfInBounds_toArray, List.set_cons_zero, List.set_cons_succ]
      refine wh_call 2 (some 20) 41 #[.int .i64 (v : Int)] (by kernel_rfl) rfl rfl (by rfl) (by kernel_rfl) ?_
      refine (HU.out _).mono ?_
      rintro e VB ⟨rfl, hbB⟩
      have hbV : Below w.heap.size w VB := below2 hbA hbB
      refine ⟨_, rfl, trivial, ?_⟩
      simp only [Act.put, List.setIfInBounds_toArray, List.set_cons_zero, List.set_cons_succ]
      refine wh_take 9 (some 27) (.string (Q ++ Z)) rfl rfl (by kernel_rfl) (by kernel_rfl) (by kernel_rfl) (fun _ _ _ h => h) trivial (by rfl) (fun w' hS => by first | rfl | (go_simp; done) | (go_simp; omega)) ?_
      simp only [Act.put, List.setIfInBounds_toArray, List.set_cons_zero, List.set_cons_succ]
      refine wh_val 10 (some 2) (.string (Q ++ Z)) VB (by kernel_rfl) rfl rfl (by rfl) (by first | rfl | go_simp) trivial ?_
      simp only [Act.put, List.setIfInBounds_toArray, List.set_cons_zero, List.set_cons_succ]
      refine wh_done (by kernel_rfl) ?_
      have HE : Hid (Below w.heap.size w VB) := hbV
      clear HU HC1
      go_wp2
      go_ret
      exact ⟨by rw [← HQ.out]; rfl, HE.out⟩

theorem specNumB : ∀ (n u : Nat), u ≤ n → u ≤ 9223372036854775807 → ∀ w : World, Calls Tryz.prog 41 #[.int .i64 (u : Int)] w fun e w' => e = .returned (.string ⟨(Lib.decDigits u).toArray⟩) ∧ Below w.heap.size w w'
  | 0, u, h, _, w => specNum_small u (by omega) w
  | n + 1, u, h, hu, w => by
    by_cases h10 : u < 10
    · exact specNum_small u h10 w
    · exact specNumB_more u h10 hu (fun W => specNumB n (u / 10) (by omega) (by omega) W) w

def bsV (l : List UInt8) : ByteArray := ⟨l.toArray⟩
theorem bsV_app (a b : List UInt8) : bsV a ++ bsV b = bsV (a ++ b) := by apply ByteArray.ext; simp [bsV]
theorem wi_n (q : Nat) (h : q ≤ 9223372036854775807) : wrap64 (q : Int) = (q : Int) ∧ IntKind.i64.wrap (q : Int) = (q : Int) ∧ IntKind.u64.wrap (q : Int) = (q : Int) := by
  refine ⟨by unfold wrap64; omega, by rw [IntKind.wrap_i64]; omega, by rw [IntKind.wrap_u64]; omega⟩
theorem itx_min : itx (-9223372036854775808) = [45, 57, 50, 50, 51, 51, 55, 50, 48, 51, 54, 56, 53, 52, 55, 55, 53, 56, 48, 56] := by
  unfold itx Lib.itoa
  rw [if_pos (by decide), show (-9223372036854775808 : Int).natAbs = 9223372036854775808 from rfl]
  rw [dec_more (by decide), dec_more (by decide), dec_more (by decide), dec_more (by decide), dec_more (by decide), dec_more (by decide), dec_more (by decide), dec_more (by decide), dec_more (by decide), dec_more (by decide), dec_more (by decide), dec_more (by decide), dec_more (by decide), dec_more (by decide), dec_more (by decide), dec_more (by decide), dec_more (by decide), dec_more (by decide), dec_small (by decide)]
  decide
theorem itx_pos {n : Int} (h : 0 ≤ n) : itx n = Lib.decDigits n.toNat := by unfold itx Lib.itoa; rw [if_neg (by omega)]
theorem itx_neg {n : Int} (h : n < 0) : itx n = 45 :: Lib.decDigits (-n).toNat := by
  unfold itx Lib.itoa
  rw [if_pos h, show n.natAbs = (-n).toNat by omega]

set_option maxRecDepth 100000 in
set_option maxHeartbeats 800000 in
theorem specNumI (n : Int) (h0 : -9223372036854775808 ≤ n) (h1 : n ≤ 9223372036854775807) (w : World) : Calls Tryz.prog 41 #[.int .i64 n] w fun e w' => e = .returned (.string (bsV (itx n))) ∧ Below w.heap.size w w' := by
  by_cases hp : 0 ≤ n
  · have H := specNumB n.toNat n.toNat (Nat.le_refl _) (by omega) w
    rw [show ((n.toNat : Nat) : Int) = n by omega] at H
    rw [itx_pos hp]
    exact H
  · by_cases hm : n = -9223372036854775808
    · subst hm
      rw [itx_min]
      go_enter Tryz.func41, Tryz.ntmps41
      go_wp2
      go_ret
      exact ⟨rfl, Below.refl _ _⟩
    · have hn : n < 0 := by omega
      have H := fun W => specNumB (-n).toNat (-n).toNat (Nat.le_refl _) (by omega) W
      have hl := dec_20 20 (-n).toNat (by omega) (by omega)
      rw [itx_neg hn]
      have hw : wrap64 (-n) = -n := by unfold wrap64; omega
      have hw2 : IntKind.i64.wrap (-n) = -n := by rw [IntKind.wrap_i64]; omega
      obtain ⟨D, hD⟩ : ∃ D, bsV (Lib.decDigits (-n).toNat) = D := ⟨_, rfl⟩
      have hDs : D.size ≤ 20 := by rw [← hD]; simpa [bsV, ByteArray.size] using hl
      have HD : Hid ((⟨#[45]⟩ : ByteArray) ++ D = bsV (45 :: Lib.decDigits (-n).toNat)) := by unfold Hid; rw [← hD]; exact bsV_app [45] _
      have HC : Hid (∀ W, Calls Tryz.prog 41 #[.int .i64 (-n)] W fun e w' => e = .returned (.string D) ∧ Below W.heap.size W w') := fun W => by
        have h := H W
        rw [show (((-n).toNat : Nat) : Int) = -n by omega] at h
        rw [← hD]
        exact h
      clear H hl hD hp h0 h1
      rw [← HD.out]
      go_enter Tryz.func41, Tryz.ntmps41
      go_wp2_with fail
      refine (HC.out _).mono ?_
      rintro e w1 ⟨rfl, hb⟩
      go_wp2
      go_ret
      exact ⟨rfl, hb⟩

set_option maxRecDepth 100000 in
set_option maxHeartbeats 800000 in
theorem specUns (n : Int) (h0 : -9223372036854775808 ≤ n) (h1 : n ≤ 9223372036854775807) (w : World) : Calls Tryz.prog 39 #[.int .i64 n] w fun e w' => e = .returned (.string (bsV (utx n))) ∧ Below w.heap.size w w' := by
  by_cases hp : 0 ≤ n
  · have H := fun W => specNumI n h0 h1 W
    rw [show utx n = itx n by rw [itx_pos hp]; unfold utx; rw [if_pos hp]]
    obtain ⟨D, hD⟩ : ∃ D, bsV (itx n) = D := ⟨_, rfl⟩
    rw [hD] at H ⊢
    clear hD h0 h1
    go_enter Tryz.func39, Tryz.ntmps39
    go_wp2_with fail
    refine (H _).mono ?_
    rintro e w1 ⟨rfl, hb⟩
    go_wp2
    go_ret
    exact ⟨rfl, hb⟩
  · obtain ⟨x, hx⟩ : ∃ x : Nat, (x : Int) = n + 18446744073709551616 := ⟨(n + 18446744073709551616).toNat, by omega⟩
    have hux : utx n = Lib.decDigits (x / 10) ++ Lib.decDigits (x % 10) := by
      unfold utx
      rw [if_neg hp, show (n + 18446744073709551616).toNat = x by omega, dec_more (by omega), dec_small (show x % 10 < 10 by omega)]
    rw [hux]
    obtain ⟨q, hq⟩ : ∃ q, x / 10 = q := ⟨_, rfl⟩
    obtain ⟨r, hr⟩ : ∃ q, x % 10 = q := ⟨_, rfl⟩
    rw [hq, hr]
    have H1 : Hid (∀ W, Calls Tryz.prog 41 #[.int .i64 (q : Int)] W fun e w' => e = .returned (.string (bsV (Lib.decDigits q))) ∧ Below W.heap.size W w') := fun W => specNumB q q (Nat.le_refl _) (by omega) W
    have H2 : Hid (∀ W, Calls Tryz.prog 41 #[.int .i64 (r : Int)] W fun e w' => e = .returned (.string (bsV (Lib.decDigits r))) ∧ Below W.heap.size W w') := fun W => specNumB r r (Nat.le_refl _) (by omega) W
    have l1 := dec_20 20 q (by omega) (by omega)
    have l2 := dec_20 20 r (by omega) (by omega)
    have hq9 : q ≤ 9223372036854775807 := by omega
    have hr9 : r ≤ 9223372036854775807 := by omega
    rw [← bsV_app]
    have k0 : ¬ 0 ≤ n := hp
    have k1 : IntKind.u64.wrap n = (x : Int) := by rw [IntKind.wrap_u64]; omega
    have k2 : Int.tdiv (x : Int) 10 = (q : Int) := by rw [← hq]; rfl
    have k3 : Int.tmod (x : Int) 10 = (r : Int) := by rw [← hr]; rfl
    obtain ⟨k4, k6, k8⟩ := wi_n q hq9
    obtain ⟨k5, k7, k9⟩ := wi_n r hr9
    obtain ⟨D, hD⟩ : ∃ D, bsV (Lib.decDigits q) = D := ⟨_, rfl⟩
    obtain ⟨E, hE⟩ : ∃ D, bsV (Lib.decDigits r) = D := ⟨_, rfl⟩
    have s1 : D.size ≤ 20 := by rw [← hD]; simpa [bsV, ByteArray.size] using l1
    have s2 : E.size ≤ 20 := by rw [← hE]; simpa [bsV, ByteArray.size] using l2
    rw [hD] at H1 ⊢
    rw [hE] at H2 ⊢
    clear hD hE l1 l2 hq hr hux hx hp h0 h1 hq9 hr9
    go_enter Tryz.func39, Tryz.ntmps39
    go_wp2_with fail
    refine (H1.out _).mono ?_
    rintro e w1 ⟨rfl, hb1⟩
    go_wp2_with fail
    refine (H2.out _).mono ?_
    rintro e w2 ⟨rfl, hb2⟩
    go_wp2
    go_ret
    exact ⟨rfl, below2 hb1 hb2⟩

end Go.Proofs.YtljnciclbjcinaaGreatDoor

namespace Go.Proofs.YtljnciclbjcinaaGreatDoor
open Go.ChangeShapes Go.WideShapes Go.ChangeAt Go.RowKit

theorem hex_at : ∀ j : Fin 16, (⟨#[48, 49, 50, 51, 52, 53, 54, 55, 56, 57, 97, 98, 99, 100, 101, 102]⟩ : ByteArray).extract j.val (j.val + 1) = bsV [hexB j.val] := by decide +kernel
set_option maxRecDepth 100000 in
set_option maxHeartbeats 800000 in
theorem specDigit (m : Nat) (hm : m < 16) (w : World) : Calls Tryz.prog 65 #[.int .u8 (m : Int)] w fun e w' => e = .returned (.string (bsV [hexB m])) ∧ w' = w := by
  have H := hex_at ⟨m, hm⟩
  simp only at H
  have hsl : ∀ wx : World, (Instr.slice 9 (.string ⟨#[48, 49, 50, 51, 52, 53, 54, 55, 56, 57, 97, 98, 99, 100, 101, 102]⟩) (some (.int .u8 (m : Int))) (some (.int .u8 ((m : Int) + 1))) none).run Tryz.prog wx = .ok (.string (bsV [hexB m])) wx := fun wx => by
    have H2 := run_slice_string (P := Tryz.prog) wx 9 ⟨#[48, 49, 50, 51, 52, 53, 54, 55, 56, 57, 97, 98, 99, 100, 101, 102]⟩ .u8 .u8 (m : Int) ((m : Int) + 1) Tryz.underlying9 (by omega) (by omega) (by show _ ≤ ((16 : Nat) : Int); omega)
    rw [show (m : Int).toNat = m by omega, show ((m : Int) + 1).toNat = m + 1 by omega, H] at H2
    exact H2
  have k1 : IntKind.u8.wrap ((m : Int) + 1) = (m : Int) + 1 := by rw [IntKind.wrap_u8]; omega
  clear H hm
  go_enter Tryz.func65, Tryz.ntmps65
  go_wp2
  go_ret
  exact ⟨rfl, rfl⟩

theorem byte_ofV (s : ByteArray) (k : Nat) (h : k < s.size) : ∃ b : UInt8, (s[k]'h) = b ∧ s.data.toList[k]? = some b := ⟨_, rfl, Lib.data_getElem? s k h⟩
theorem slice_natV {P : Program} (T : TypeId) (hu : P.underlying T = some .string) (s : ByteArray) (t n : Nat) (h : t + n ≤ s.size) (wx : World) :
    (Instr.slice T (.string s) (some (.int .i64 (t : Int))) (some (.int .i64 ((t : Int) + (n : Int)))) none).run P wx = .ok (.string (s.extract t (t + n))) wx := by
  have H := run_slice_string (P := P) wx T s .i64 .i64 (t : Int) ((t : Int) + (n : Int)) hu (by omega) (by omega) (by omega)
  have e : ((t : Int) + (n : Int)).toNat = t + n := by omega
  rw [e] at H
  exact H
theorem one_ext (s : ByteArray) (k : Nat) (b : UInt8) (h : s.data.toList[k]? = some b) : s.extract k (k + 1) = bsV [b] := by
  apply ByteArray.ext
  apply Array.toList_inj.1
  obtain ⟨hk, hb⟩ := List.getElem?_eq_some_iff.1 h
  rw [ByteArray.data_extract, Array.toList_extract, List.extract_eq_drop_take', List.take_succ_eq_append_getElem hk, hb, List.drop_append_of_le_length (by rw [List.length_take]; omega), List.drop_of_length_le (by rw [List.length_take]; omega)]
  rfl
theorem wkq {k n : Nat} (h : k + 1 ≤ n) (hn : n ≤ 1048576) : wrap64 ((k : Int) + 1) = (k : Int) + 1 := by unfold wrap64; omega
theorem qs_next {a b k : Nat} (h : a ≤ 3 * k + 1) (h2 : b ≤ 3) : a + b ≤ 3 * (k + 1) + 1 := by omega
theorem hex_case {xi : Int} {p r : Nat} (kp : xi / 16 = (p : Int)) (kr : xi % 16 = (r : Int)) : (xi = 34 → p = 2 ∧ r = 2) ∧ (xi = 92 → p = 5 ∧ r = 12) := by omega
theorem qt_snoc (l : List UInt8) (k : Nat) (b : UInt8) (h : l[k]? = some b) : (34 : UInt8) :: (l.take (k + 1)).flatMap qch = ((34 : UInt8) :: (l.take k).flatMap qch) ++ qch b := by
  obtain ⟨hk, hb⟩ := List.getElem?_eq_some_iff.1 h
  rw [List.take_succ_eq_append_getElem hk, List.flatMap_append, hb]
  simp
theorem plain_cases (b : UInt8) : (plainB b = true ∧ (32 ≤ (b.toNat : Int) ∧ (b.toNat : Int) ≤ 126 ∧ (b.toNat : Int) ≠ 34 ∧ (b.toNat : Int) ≠ 92)) ∨ (plainB b = false ∧ ((b.toNat : Int) < 32 ∨ (32 ≤ (b.toNat : Int) ∧ 126 < (b.toNat : Int)) ∨ (b.toNat : Int) = 34 ∨ (b.toNat : Int) = 92)) := by
  have h1 : (b == 34) = decide (b.toNat = 34) := by
    by_cases e : b = 34
    · subst e; rfl
    · have : b.toNat ≠ 34 := fun h => e (UInt8.toNat_inj.1 h)
      simp [e, this]
  have h2 : (b == 92) = decide (b.toNat = 92) := by
    by_cases e : b = 92
    · subst e; rfl
    · have : b.toNat ≠ 92 := fun h => e (UInt8.toNat_inj.1 h)
      simp [e, this]
  cases hp : plainB b with
  | true =>
    unfold plainB at hp
    rw [h1, h2] at hp
    simp at hp
    exact .inl ⟨rfl, by omega⟩
  | false =>
    unfold plainB at hp
    rw [h1, h2] at hp
    refine .inr ⟨rfl, ?_⟩
    simp at hp
    omega

set_option maxRecDepth 100000 in
set_option maxHeartbeats 1600000 in
theorem specQuote (s : ByteArray) (hs : s.size ≤ 1048576) (w : World) : Calls Tryz.prog 40 #[.string s] w fun e w' => e = .returned (.string (bsV (qtx s.data.toList))) ∧ Below w.heap.size w w' := by
  obtain ⟨R, hR⟩ : ∃ R, bsV (qtx s.data.toList) = R := ⟨_, rfl⟩
  have HR : Hid (bsV (qtx s.data.toList) = R) := hR
  rw [hR]
  clear hR
  go_enter Tryz.func40, Tryz.ntmps40
  go_wp2
  go_loopw [3, 4, 5] (fun o i _ wr => ∃ (k : Nat) (q : ByteArray), k ≤ s.size ∧ i = .int .i64 (k : Int) ∧ o = .string q ∧ Hid (q = bsV (34 :: (s.data.toList.take k).flatMap qch)) ∧ q.size ≤ 3 * k + 1 ∧ Hid (Below w.heap.size w wr)) (fun _ i _ _ => s.size - (intOf i).toNat)
  case atStart => exact ⟨0, ⟨#[34]⟩, by omega, rfl, rfl, rfl, Nat.le_refl _, Below.refl _ _⟩
  case round =>
    obtain ⟨k, q, hk, rfl, rfl, HQ, hqs, HB⟩ := hrel
    rcases Nat.lt_or_ge k s.size with hlt | hge
    · obtain ⟨b, hb, hbl⟩ := byte_ofV s k hlt
      have HBL : Hid (s.data.toList[k]? = some b) := hbl
      have e0 : ((s[k]'hlt).toNat : Int) = (b.toNat : Int) := by rw [hb]
      have hb8 : b.toNat < 256 := UInt8.toNat_lt b
      have HS := qt_snoc s.data.toList k b hbl
      have hpc := plain_cases b
      obtain ⟨x, hx⟩ : ∃ x : Nat, b.toNat = x := ⟨_, rfl⟩
      rw [hx] at hb8 hpc e0
      obtain ⟨p, hpp⟩ : ∃ p : Nat, x / 16 = p := ⟨_, rfl⟩
      obtain ⟨r, hrr⟩ : ∃ p : Nat, x % 16 = p := ⟨_, rfl⟩
      have kp : (x : Int) / 16 = (p : Int) := by rw [← hpp]; rfl
      have kr : (x : Int) % 16 = (r : Int) := by rw [← hrr]; rfl
      have hp16 : p < 16 := by omega
      have hr16 : r < 16 := by omega
      obtain ⟨xi, hxi⟩ : ∃ y : Int, (x : Int) = y := ⟨_, rfl⟩
      have hx0 : 0 ≤ xi := by omega
      have hx9 : xi < 256 := by omega
      rw [hxi] at hpc e0 kp kr
      have hki : (k : Int) < (s.size : Int) := by omega
      have hk1 : k + 1 ≤ s.size := hlt
      have hkw : wrap64 ((k : Int) + 1) = (k : Int) + 1 := wkq hk1 hs
      clear hb hbl
      rcases hpc with ⟨hp, h1, h2, h3, h4⟩ | ⟨hp, hc⟩
      · have hsl := slice_natV (P := Tryz.prog) 9 Tryz.underlying9 s k 1 hk1
        rw [one_ext s k b HBL.out] at hsl
        rw [show ((1 : Nat) : Int) = 1 from rfl] at hsl
        have HN : Hid (q ++ bsV [b] = bsV (34 :: (s.data.toList.take (k + 1)).flatMap qch)) := by
          unfold Hid
          rw [HS, HQ.out, bsV_app]
          unfold qch
          rw [if_pos hp]
        have h5 : (bsV [b]).size = 1 := rfl
        have h3b : (xi == 34) = false := by rw [beq_eq_false_iff_ne]; exact h3
        have h4b : (xi == 92) = false := by rw [beq_eq_false_iff_ne]; exact h4
        clear HS hp hx hpp hrr hxi hb8
        go_wp2
        go_roundw
        case rel => exact ⟨k + 1, _, hk1, by go_num, rfl, HN.out, by rw [ByteArray.size_append]; exact qs_next hqs (by first | (rw [h5]; decide) | (rw [ByteArray.size_append, ByteArray.size_append, h5, h6]; decide) | (rw [ByteArray.size_append, ByteArray.size_append, h5]; decide)), HB.out⟩
        case measure => first | (simp [intOf]; omega) | (rw [hkw]; simp [intOf]; omega)
      · have D1 := specDigit p hp16
        have D2 := specDigit r hr16
        have HN : Hid (q ++ ((⟨#[92]⟩ : ByteArray) ++ bsV [hexB p] ++ bsV [hexB r]) = bsV (34 :: (s.data.toList.take (k + 1)).flatMap qch)) := by
          unfold Hid
          rw [HS, HQ.out, show (⟨#[92]⟩ : ByteArray) = bsV [92] from rfl, bsV_app, bsV_app, bsV_app]
          unfold qch
          rw [if_neg (by rw [hp]; decide), hx, hpp, hrr]
          rfl
        have h5 : (bsV [hexB p]).size = 1 := rfl
        have h6 : (bsV [hexB r]).size = 1 := rfl
        clear HS hp hx hpp hrr hxi hb8
        have hex := hex_case kp kr
        rcases hc with h1 | ⟨h0, h1⟩ | h1 | h1
        · clear hex
          go_wp2_with fail
          refine (D1 _).mono ?_
          rintro e w1 ⟨rfl, hw1⟩
          obtain rfl := hw1.symm
          clear hw1
          go_wp2_with fail
          refine (D2 _).mono ?_
          rintro e w2 ⟨rfl, hw2⟩
          obtain rfl := hw2.symm
          clear hw2
          go_wp2
          go_roundw
          case rel => exact ⟨k + 1, _, hk1, by go_num, rfl, HN.out, by rw [ByteArray.size_append]; exact qs_next hqs (by first | (rw [h5]; decide) | (rw [ByteArray.size_append, ByteArray.size_append, h5, h6]; decide) | (rw [ByteArray.size_append, ByteArray.size_append, h5]; decide)), HB.out⟩
          case measure => first | (simp [intOf]; omega) | (rw [hkw]; simp [intOf]; omega)
        · clear hex
          go_wp2_with fail
          refine (D1 _).mono ?_
          rintro e w1 ⟨rfl, hw1⟩
          obtain rfl := hw1.symm
          clear hw1
          go_wp2_with fail
          refine (D2 _).mono ?_
          rintro e w2 ⟨rfl, hw2⟩
          obtain rfl := hw2.symm
          clear hw2
          go_wp2
          go_roundw
          case rel => exact ⟨k + 1, _, hk1, by go_num, rfl, HN.out, by rw [ByteArray.size_append]; exact qs_next hqs (by first | (rw [h5]; decide) | (rw [ByteArray.size_append, ByteArray.size_append, h5, h6]; decide) | (rw [ByteArray.size_append, ByteArray.size_append, h5]; decide)), HB.out⟩
          case measure => first | (simp [intOf]; omega) | (rw [hkw]; simp [intOf]; omega)
        · obtain ⟨rfl, rfl⟩ := hex.1 h1
          subst h1
          clear hex
          go_wp2_with fail
          refine (D1 _).mono ?_
          rintro e w1 ⟨rfl, hw1⟩
          obtain rfl := hw1.symm
          clear hw1
          go_wp2_with fail
          refine (D2 _).mono ?_
          rintro e w2 ⟨rfl, hw2⟩
          obtain rfl := hw2.symm
          clear hw2
          go_wp2
          go_roundw
          case rel => exact ⟨k + 1, _, hk1, by go_num, rfl, HN.out, by rw [ByteArray.size_append]; exact qs_next hqs (by first | (rw [h5]; decide) | (rw [ByteArray.size_append, ByteArray.size_append, h5, h6]; decide) | (rw [ByteArray.size_append, ByteArray.size_append, h5]; decide)), HB.out⟩
          case measure => first | (simp [intOf]; omega) | (rw [hkw]; simp [intOf]; omega)
        · obtain ⟨rfl, rfl⟩ := hex.2 h1
          subst h1
          clear hex
          go_wp2_with fail
          refine (D1 _).mono ?_
          rintro e w1 ⟨rfl, hw1⟩
          obtain rfl := hw1.symm
          clear hw1
          go_wp2_with fail
          refine (D2 _).mono ?_
          rintro e w2 ⟨rfl, hw2⟩
          obtain rfl := hw2.symm
          clear hw2
          go_wp2
          go_roundw
          case rel => exact ⟨k + 1, _, hk1, by go_num, rfl, HN.out, by rw [ByteArray.size_append]; exact qs_next hqs (by first | (rw [h5]; decide) | (rw [ByteArray.size_append, ByteArray.size_append, h5, h6]; decide) | (rw [ByteArray.size_append, ByteArray.size_append, h5]; decide)), HB.out⟩
          case measure => first | (simp [intOf]; omega) | (rw [hkw]; simp [intOf]; omega)
    · have hkk : k = s.size := by omega
      have HE : Hid (q ++ (⟨#[34]⟩ : ByteArray) = R) := by
        unfold Hid
        rw [← HR.out, HQ.out, show (⟨#[34]⟩ : ByteArray) = bsV [34] from rfl, bsV_app, hkk, List.take_of_length_le (by simp)]
        rfl
      have hki : ¬ (k : Int) < (s.size : Int) := by omega
      clear hkk
      go_wp2
      go_ret
      exact ⟨by rw [← HE.out]; rfl, HB.out⟩

end Go.Proofs.YtljnciclbjcinaaGreatDoor

namespace Go.Proofs.YtljnciclbjcinaaGreatDoor
open Go.ChangeShapes Go.WideShapes Go.ChangeAt Go.RowKit

set_option maxRecDepth 100000 in
set_option maxHeartbeats 800000 in
theorem implPlain (b : UInt8) (w : World) : Calls Tryz.prog 89 #[.int .u8 (b.toNat : Int)] w fun e w' => e = .returned (.bool (plainB b)) ∧ w' = w := by
  have hpc := plain_cases b
  obtain ⟨x, hx⟩ : ∃ x : Int, (b.toNat : Int) = x := ⟨_, rfl⟩
  rw [hx] at hpc ⊢
  clear hx
  rcases hpc with ⟨hp, h1, h2, h3, h4⟩ | ⟨hp, hc⟩
  · rw [hp]
    have d1 : decide (32 ≤ x) = true := by simp [h1]
    have d2 : decide (x ≤ 126) = true := by simp [h2]
    have h3b : (x != 34) = true := by simp [h3]
    have h4b : (x != 92) = true := by simp [h4]
    go_enter Tryz.func89, Tryz.ntmps89
    go_wp2
    go_ret
    exact ⟨rfl, rfl⟩
  · rw [hp]
    rcases hc with h1 | ⟨h0, h1⟩ | h1 | h1
    · have d1 : decide (32 ≤ x) = false := by simp; omega
      go_enter Tryz.func89, Tryz.ntmps89
      go_wp2
      go_ret
      exact ⟨rfl, rfl⟩
    · have d1 : decide (32 ≤ x) = true := by simp; omega
      have d2 : decide (x ≤ 126) = false := by simp; omega
      go_enter Tryz.func89, Tryz.ntmps89
      go_wp2
      go_ret
      exact ⟨rfl, rfl⟩
    · subst h1
      go_enter Tryz.func89, Tryz.ntmps89
      go_wp2
      go_ret
      exact ⟨rfl, rfl⟩
    · subst h1
      go_enter Tryz.func89, Tryz.ntmps89
      go_wp2
      go_ret
      exact ⟨rfl, rfl⟩

set_option maxRecDepth 100000 in
theorem implEnd (x : Int) (w : World) : Calls Tryz.prog 47 #[.int .i64 x] w fun e w' => e = .returned (.string (bsV (enx x))) ∧ w' = w := by
  by_cases h1 : x = 13
  · subst h1
    go_enter Tryz.func47, Tryz.ntmps47
    go_wp2
    go_ret
    exact ⟨rfl, rfl⟩
  · by_cases h2 : x = 14
    · subst h2
      go_enter Tryz.func47, Tryz.ntmps47
      go_wp2
      go_ret
      exact ⟨rfl, rfl⟩
    · have e : enx x = [] := by unfold enx; rw [if_neg h1, if_neg h2]
      rw [e]
      have h1b : (x == 13) = false := by rw [beq_eq_false_iff_ne]; exact h1
      have h2b : (x == 14) = false := by rw [beq_eq_false_iff_ne]; exact h2
      go_enter Tryz.func47, Tryz.ntmps47
      go_wp2
      go_ret
      exact ⟨rfl, rfl⟩

def mkx (x : Int) : List UInt8 := if x = 15 then [58] else []
set_option maxRecDepth 100000 in
theorem implMark (x : Int) (w : World) : Calls Tryz.prog 72 #[.int .i64 x] w fun e w' => e = .returned (.string (bsV (mkx x))) ∧ w' = w := by
  by_cases h1 : x = 15
  · subst h1
    go_enter Tryz.func72, Tryz.ntmps72
    go_wp2
    go_ret
    exact ⟨rfl, rfl⟩
  · have e : mkx x = [] := by unfold mkx; rw [if_neg h1]
    rw [e]
    have h1b : (x == 15) = false := by rw [beq_eq_false_iff_ne]; exact h1
    go_enter Tryz.func72, Tryz.ntmps72
    go_wp2
    go_ret
    exact ⟨rfl, rfl⟩

set_option maxRecDepth 100000 in
theorem hexIdx (m : Nat) (hm : m < 16) (w : World) : (Instr.index 9 (.string ⟨#[48, 49, 50, 51, 52, 53, 54, 55, 56, 57, 97, 98, 99, 100, 101, 102]⟩) (.int .u8 (m : Int))).run Tryz.prog w = .ok (.int .u8 ((hexB m).toNat : Int)) w := by
  have : m = 0 ∨ m = 1 ∨ m = 2 ∨ m = 3 ∨ m = 4 ∨ m = 5 ∨ m = 6 ∨ m = 7 ∨ m = 8 ∨ m = 9 ∨ m = 10 ∨ m = 11 ∨ m = 12 ∨ m = 13 ∨ m = 14 ∨ m = 15 := by omega
  rcases this with rfl | rfl | rfl | rfl | rfl | rfl | rfl | rfl | rfl | rfl | rfl | rfl | rfl | rfl | rfl | rfl
  all_goals (show _ = _; kernel_rfl)
theorem and_15 : ∀ j : Fin 256, bits BinOp.and IntKind.u8 (j.val : Int) 15 = ((j.val % 16 : Nat) : Int) := by decide +kernel
theorem Tryz.infoq5 : (Tryz.prog.info? 5).map (fun i => (i.zero, i.size, i.bytes)) = some (some (.int .u8 0), 1, 1) := by kernel_rfl
theorem qn_next {a k : Nat} {q : Nat} (l : List UInt8) (h : a ≤ q + (3 * k + 1)) (h2 : l.length ≤ 3) (b : List UInt8) (hb : b.length = a) : (b ++ l).length ≤ q + (3 * (k + 1) + 1) := by
  rw [List.length_append]; omega
theorem cells_litV (w : World) (A : Array Value) (t : TypeId) : ∀ j u, A.toList[j]? = some u → (w.alloc (.cells A t)).cell? ((⟨w.heap.size, 0, none⟩ : Addr).add j) = some u := fun j u hj => by
  rw [Addr.add_lit, Nat.zero_add]
  have h := heap_alloc_new w (.cells A t)
  have hj2 : A[j]? = some u := by rw [← Array.getElem?_toList]; exact hj
  unfold World.cell?
  simp only [h]
  exact hj2

set_option maxRecDepth 100000 in
set_option maxHeartbeats 1600000 in
theorem implQuoted (B : Nat) (v : Value) (bs : List UInt8) (s : ByteArray) (w : World) (hown : w.ownsRow B 5 1 v bs.length (bv bs)) (hB : B ≤ w.heap.size) (hs : s.size ≤ 1048576) (hlen : bs.length ≤ 2000000000) :
    Calls Tryz.prog 69 #[v, .string s] w fun e w' => ∃ v', e = .returned v' ∧ w'.ownsRow B 5 1 v' (bs ++ qtx s.data.toList).length (bv (bs ++ qtx s.data.toList)) ∧ KeepO 5 w w' ∧ Below B w w' := by
  obtain ⟨i0, hi, hz0, hz1, hz2⟩ := info_parts Tryz.infoq5
  go_enter Tryz.func69, Tryz.ntmps69
  go_wp2_with (at_builtin; refine wpList_append_own _ rfl _ _ 67 rfl B 5 i0 (.int .u8 0) 1 1 Tryz.underlying67 hi hz0 hz1 hz2 rfl (by decide) _ _ _ rfl (hown.alloc _) ⟨w.heap.size, 0, none⟩ 1 1 (bv [34]) rfl rfl ?c1 ?c2 ?c3 ?c4 ?c5 ?_)
  case c1 => exact cells_litV _ _ _
  case c2 => exact bv_one _
  case c3 => unfold maxLen; omega
  case c4 => omega
  case c5 => simp; omega
  intro v1 w1 hown1 hgrow1 _
  rw [bv_app] at hown1
  have hb1 : Hid (Below B w w1) := ((Below.refl B w).alloc (by omega) _).grown hgrow1 (by simp; omega) (ownsRow_block hown)
  have hk1 : Hid (KeepO 5 w w1) := (KeepO.refl _ _).app hown hgrow1
  have hown2 : w1.ownsRow B 5 1 v1 (bs ++ [34]).length (bv (bs ++ [34])) := by simpa using hown1
  clear hown1 hgrow1
  go_wp2
  go_loopw [0, 5, 6, 12] (fun v _ _ i wr => ∃ (k : Nat) (cs : List UInt8), k ≤ s.size ∧ i = .int .i64 (k : Int) ∧ Hid (cs = bs ++ (34 :: (s.data.toList.take k).flatMap qch)) ∧ cs.length ≤ bs.length + (3 * k + 1) ∧ wr.ownsRow B 5 1 v cs.length (bv cs) ∧ Hid (KeepO 5 w wr) ∧ Hid (Below B w wr)) (fun _ _ _ i _ => s.size - (intOf i).toNat)
  case atStart => exact ⟨0, bs ++ [34], by omega, rfl, by simp [Hid], by simp, hown2, hk1, hb1⟩
  case round =>
    clear hown hown2 hk1 hb1
    obtain ⟨k, cs, hk, rfl, HC, hcl, hownr, HK, HB⟩ := hrel
    have hsz := HB.out.size
    rcases Nat.lt_or_ge k s.size with hlt | hge
    · obtain ⟨b, hb, hbl⟩ := byte_ofV s k hlt
      have e0 : ((s[k]'hlt).toNat : Int) = (b.toNat : Int) := by rw [hb]
      have hb8 : b.toNat < 256 := UInt8.toNat_lt b
      have HS := qt_snoc s.data.toList k b hbl
      have hki : (k : Int) < (s.size : Int) := by omega
      have hk1 : k + 1 ≤ s.size := hlt
      have hkw : wrap64 ((k : Int) + 1) = (k : Int) + 1 := wkq hk1 hs
      obtain ⟨pl, hpl⟩ : ∃ pl, plainB b = pl := ⟨_, rfl⟩
      obtain ⟨x, hx⟩ : ∃ x : Nat, b.toNat = x := ⟨_, rfl⟩
      obtain ⟨p, hpp⟩ : ∃ p : Nat, x / 16 = p := ⟨_, rfl⟩
      obtain ⟨r, hrr⟩ : ∃ p : Nat, x % 16 = p := ⟨_, rfl⟩
      have kp : (x : Int) / 16 = (p : Int) := by rw [← hpp]; rfl
      have kr : (x : Int) % 16 = (r : Int) := by rw [← hrr]; rfl
      have hp16 : p < 16 := by omega
      have hr16 : r < 16 := by omega
      have kb : bits BinOp.and IntKind.u8 (x : Int) 15 = (r : Int) := by rw [← hrr]; exact and_15 ⟨x, by omega⟩
      have HP : Hid (∀ W : World, Calls Tryz.prog 89 #[.int .u8 (b.toNat : Int)] W fun e w' => e = .returned (.bool (plainB b)) ∧ w' = W) := fun W => implPlain b W
      have HQB : Hid (qch b = if pl = true then [b] else [92, hexB p, hexB r]) := by unfold Hid qch; rw [hpl, hx, hpp, hrr]
      have HBX : Hid ((x : Int) = (b.toNat : Int)) := by unfold Hid; rw [hx]
      rw [hpl, hx] at HP
      rw [hx] at e0
      obtain ⟨xi, hxi⟩ : ∃ y : Int, (x : Int) = y := ⟨_, rfl⟩
      rw [hxi] at HP e0 kp kr HBX kb
      have HI1 : Hid (∀ W : World, (Instr.index 9 (.string ⟨#[48, 49, 50, 51, 52, 53, 54, 55, 56, 57, 97, 98, 99, 100, 101, 102]⟩) (.int .u8 (p : Int))).run Tryz.prog W = .ok (.int .u8 ((hexB p).toNat : Int)) W) := fun W => hexIdx p hp16 W
      have HI2 : Hid (∀ W : World, (Instr.index 9 (.string ⟨#[48, 49, 50, 51, 52, 53, 54, 55, 56, 57, 97, 98, 99, 100, 101, 102]⟩) (.int .u8 (r : Int))).run Tryz.prog W = .ok (.int .u8 ((hexB r).toNat : Int)) W) := fun W => hexIdx r hr16 W
      clear hb hbl hpl hx hpp hrr hxi hb8
      cases pl
      · have HN : Hid (cs ++ [92, hexB p, hexB r] = bs ++ (34 :: (s.data.toList.take (k + 1)).flatMap qch)) := by unfold Hid; rw [HS, HC.out, HQB.out]; simp
        have i1 := HI1.out
        have i2 := HI2.out
        obtain ⟨h1, hh1⟩ : ∃ y : Int, ((hexB p).toNat : Int) = y := ⟨_, rfl⟩
        obtain ⟨h2, hh2⟩ : ∃ y : Int, ((hexB r).toNat : Int) = y := ⟨_, rfl⟩
        rw [hh1] at i1
        rw [hh2] at i2
        have HH : Hid (bv [92, hexB p, hexB r] = [.int .u8 92, .int .u8 h1, .int .u8 h2]) := by unfold Hid; rw [← hh1, ← hh2]; rfl
        clear HS HI1 HI2 HBX hh1 hh2
        go_wp2_with fail
        refine (HP.out _).mono ?_
        rintro e w2 ⟨rfl, hw2⟩
        obtain rfl := hw2.symm
        clear hw2 HP
        go_wp2_with fail
        have hszd : B ≤ wr.drew.heap.size := Nat.le_trans hB hsz
        have hownd : wr.drew.ownsRow B 5 1 u0 cs.length (bv cs) := hownr
        have HBD : Hid (Below B w wr.drew) := HB.out.drew
        have HKD : Hid (KeepO 5 w wr.drew) := HK.out
        refine wh_begin (fun _ => True) (by kernel_rfl) ?_
        refine wh_take 0 (some 24) u0 rfl rfl (by kernel_rfl) (by kernel_rfl) (by kernel_rfl) (fun _ _ _ h => h) trivial (by rfl) (fun w' hS => by first | rfl | (go_simp; done) | (go_simp; omega)) ?_
        simp only [Act.put, List.setIfInBounds_toArray, List.set_cons_zero, List.set_cons_succ]
        refine wh_take 1 (some 25) (.int .u8 xi) rfl rfl (by kernel_rfl) (by kernel_rfl) (by kernel_rfl) (fun _ _ _ h => h) trivial (by rfl) (fun w' hS => by first | rfl | (go_simp; done) | (go_simp; omega)) ?_
        simp only [Act.put, List.setIfInBounds_toArray, List.set_cons_zero, List.set_cons_succ]
        refine wh_take 2 (some 26) (.int .u8 (p : Int)) rfl rfl (by kernel_rfl) (by kernel_rfl) (by kernel_rfl) (fun _ _ _ h => h) trivial (by rfl) (fun w' hS => by first | rfl | (go_simp; done) | (go_simp; omega)) ?_
        simp only [Act.put, List.setIfInBounds_toArray, List.set_cons_zero, List.set_cons_succ]
        refine wh_take 3 (some 27) (.int .u8 h1) rfl rfl (by kernel_rfl) (by kernel_rfl) (by kernel_rfl) (fun _ _ _ h => h) trivial (by rfl) (fun w' hS => by first | rfl | (go_simp; done) | (go_simp; omega)) ?_
        simp only [Act.put, List.setIfInBounds_toArray, List.set_cons_zero, List.set_cons_succ]
        refine wh_take 4 (some 28) (.int .u8 xi) rfl rfl (by kernel_rfl) (by kernel_rfl) (by kernel_rfl) (fun _ _ _ h => h) trivial (by rfl) (fun w' hS => by first | rfl | (go_simp; done) | (go_simp; omega)) ?_
        simp only [Act.put, List.setIfInBounds_toArray, List.set_cons_zero, List.set_cons_succ]
        refine wh_take 5 (some 29) (.int .u8 (r : Int)) rfl rfl (by kernel_rfl) (by kernel_rfl) (by kernel_rfl) (fun _ _ _ h => h) trivial (by rfl) (fun w' hS => by first | rfl | (go_simp; done) | (go_simp; omega)) ?_
        simp only [Act.put, List.setIfInBounds_toArray, List.set_cons_zero, List.set_cons_succ]
        refine wh_take 6 (some 30) (.int .u8 h2) rfl rfl (by kernel_rfl) (by kernel_rfl) (by kernel_rfl) (fun _ _ _ h => h) trivial (by rfl) (fun w' hS => by first | rfl | (go_simp; done) | (go_simp; omega)) ?_
        simp only [Act.put, List.setIfInBounds_toArray, List.set_cons_zero, List.set_cons_succ]
        clear hownr HB HK i1 i2 kp kr kb e0 hsz
        generalize wr.drew = wz at *
        refine wh_val 7 (some 31) (.slice (some ⟨wz.heap.size, 0, none⟩) 3 3) (wz.alloc (.cells #[.int .u8 92, .int .u8 h1, .int .u8 h2] 5)) (by kernel_rfl) rfl rfl (by rfl) (by first | rfl | go_simp) trivial ?_
        simp only [Act.put, List.setIfInBounds_toArray, List.set_cons_zero, List.set_cons_succ]
        refine wh_wp 8 (by kernel_rfl) rfl (by rfl) ?_
        refine wp_append_own _ _ _ 67 rfl B 5 i0 (.int .u8 0) 1 1 Tryz.underlying67 hi hz0 hz1 hz2 rfl (by decide) _ _ _ rfl (hownd.alloc _) ⟨wz.heap.size, 0, none⟩ 3 3 (bv [92, hexB p, hexB r]) rfl rfl ?d1 ?d2 ?d3 ?d4 ?d5 ?_
        case d1 => rw [HH.out]; exact cells_litV _ _ _
        case d2 => exact bv_one _
        case d3 => unfold maxLen; omega
        case d4 => omega
        case d5 => simp; omega
        intro v3 w3 hown3 hgrow3 _
        rw [bv_app] at hown3
        have hb3 : Below B w w3 := (HBD.out.alloc hszd _).grown hgrow3 (by simp; omega) (ownsRow_block hownd)
        have hk3 : KeepO 5 w w3 := HKD.out.app hownd hgrow3
        have hown4 : w3.ownsRow B 5 1 v3 (cs ++ [92, hexB p, hexB r]).length (bv (cs ++ [92, hexB p, hexB r])) := by simpa using hown3
        clear hown3 hgrow3 hownd HBD HKD
        refine ⟨trivial, ?_⟩
        simp only [Act.put, List.setIfInBounds_toArray]
        refine wh_val 9 (some 0) v3 w3 (by kernel_rfl) rfl rfl (by rfl) (by first | rfl | go_simp) trivial ?_
        simp only [Act.put]
        refine wh_done (by kernel_rfl) ?_
        go_wp2
        go_roundw
        case rel => exact ⟨k + 1, _, hk1, by go_num, HN, qn_next _ hcl (by simp) cs rfl, hown4, hk3, hb3⟩
        case measure => first | (simp [intOf]; omega) | (rw [hkw]; simp [intOf]; omega)
      · have HN : Hid (cs ++ [b] = bs ++ (34 :: (s.data.toList.take (k + 1)).flatMap qch)) := by unfold Hid; rw [HS, HC.out, HQB.out]; simp
        clear HS HI1 HI2 kp kr kb hp16 hr16
        go_wp2_with fail
        refine (HP.out _).mono ?_
        rintro e w2 ⟨rfl, hw2⟩
        obtain rfl := hw2.symm
        clear hw2 HP
        go_wp2_with (at_builtin; refine wpList_append_own _ rfl _ _ 67 rfl B 5 i0 (.int .u8 0) 1 1 Tryz.underlying67 hi hz0 hz1 hz2 rfl (by decide) _ _ _ rfl (hownr.alloc _) ⟨wr.heap.size, 0, none⟩ 1 1 (bv [b]) rfl rfl ?d1 ?d2 ?d3 ?d4 ?d5 ?_)
        case d1 => rw [HBX.out]; exact cells_litV _ _ _
        case d2 => exact bv_one _
        case d3 => unfold maxLen; omega
        case d4 => omega
        case d5 => simp; omega
        intro v3 w3 hown3 hgrow3 _
        rw [bv_app] at hown3
        have hb3 : Below B w w3 := (HB.out.alloc (Nat.le_trans hB hsz) _).grown hgrow3 (by simp; omega) (ownsRow_block hownr)
        have hk3 : KeepO 5 w w3 := HK.out.app hownr hgrow3
        have hown4 : w3.ownsRow B 5 1 v3 (cs ++ [b]).length (bv (cs ++ [b])) := by simpa using hown3
        clear hown3 hgrow3 hownr HB HK
        go_wp2
        go_roundw
        case rel => exact ⟨k + 1, _, hk1, by go_num, HN, qn_next [b] hcl (by simp) cs rfl, hown4, hk3, hb3⟩
        case measure => first | (simp [intOf]; omega) | (rw [hkw]; simp [intOf]; omega)
    · have hkk : k = s.size := by omega
      have hki : ¬ (k : Int) < (s.size : Int) := by omega
      have HE : Hid (cs ++ [34] = bs ++ qtx s.data.toList) := by
        unfold Hid qtx
        rw [HC.out, hkk, List.take_of_length_le (by simp)]
        simp
      clear hkk
      go_wp2_with (at_builtin; refine wpList_append_own _ rfl _ _ 67 rfl B 5 i0 (.int .u8 0) 1 1 Tryz.underlying67 hi hz0 hz1 hz2 rfl (by decide) _ _ _ rfl (hownr.alloc _) ⟨wr.heap.size, 0, none⟩ 1 1 (bv [34]) rfl rfl ?d1 ?d2 ?d3 ?d4 ?d5 ?_)
      case d1 => first | exact cells_litV _ _ _ | exact fun j u h => h
      case d2 => exact bv_one _
      case d3 => unfold maxLen; omega
      case d4 => omega
      case d5 => first | (simp; omega) | omega
      intro v3 w3 hown3 hgrow3 _
      rw [bv_app] at hown3
      have hb3 : Hid (Below B w w3) := (HB.out.alloc (Nat.le_trans hB hsz) _).grown hgrow3 (by first | (simp; omega) | omega) (ownsRow_block hownr)
      have hk3 : Hid (KeepO 5 w w3) := HK.out.app hownr hgrow3
      have hown4 : w3.ownsRow B 5 1 v3 (cs ++ [34]).length (bv (cs ++ [34])) := by simpa using hown3
      clear hown3 hgrow3 hownr HB HK
      go_wp2
      go_ret
      rw [HE.out] at hown4
      exact ⟨_, rfl, hown4, hk3.out, hb3.out⟩

end Go.Proofs.YtljnciclbjcinaaGreatDoor

namespace Go.Proofs.YtljnciclbjcinaaGreatDoor
open Go.ChangeShapes Go.WideShapes Go.ChangeAt Go.RowKit

def fwA (x : Int) : Option (Array Value) :=
  if x = 1 then some #[.string ⟨#[102, 97, 108, 115, 101]⟩, .string ⟨#[116, 114, 117, 101]⟩]
  else if x = 13 then some #[.string ⟨#[91]⟩]
  else if x = 14 then some #[.string ⟨#[40]⟩]
  else if x = 17 then some #[.string ⟨#[110, 111, 110, 101]⟩, .string ⟨#[115, 111, 109, 101, 58]⟩]
  else if x = 18 then some #[.string ⟨#[111, 107, 58]⟩, .string ⟨#[101, 114, 114, 58]⟩]
  else none
set_option maxRecDepth 100000 in
theorem implWords (x : Int) (A : Array Value) (h : fwA x = some A) (w : World) : Calls Tryz.prog 68 #[.int .i64 x] w fun e w' => e = .returned (.slice (some ⟨w.heap.size, 0, none⟩) A.size A.size) ∧ w' = w.alloc (.cells A 9) := by
  unfold fwA at h
  by_cases h1 : x = 1
  · subst h1
    obtain rfl := Option.some.inj h
    clear h
    go_enter Tryz.func68, Tryz.ntmps68
    go_wp2
    go_ret
    exact ⟨rfl, rfl⟩
  · rw [if_neg h1] at h
    have b1 : (x == 1) = false := by rw [beq_eq_false_iff_ne]; exact h1
    by_cases h2 : x = 13
    · subst h2
      obtain rfl := Option.some.inj h
      clear h b1 h1
      go_enter Tryz.func68, Tryz.ntmps68
      go_wp2
      go_ret
      exact ⟨rfl, rfl⟩
    · rw [if_neg h2] at h
      by_cases h3 : x = 14
      · subst h3
        obtain rfl := Option.some.inj h
        clear h b1 h1 h2
        go_enter Tryz.func68, Tryz.ntmps68
        go_wp2
        go_ret
        exact ⟨rfl, rfl⟩
      · rw [if_neg h3] at h
        by_cases h4 : x = 17
        · subst h4
          obtain rfl := Option.some.inj h
          clear h b1 h1 h2 h3
          go_enter Tryz.func68, Tryz.ntmps68
          go_wp2
          go_ret
          exact ⟨rfl, rfl⟩
        · rw [if_neg h4] at h
          by_cases h5 : x = 18
          · subst h5
            obtain rfl := Option.some.inj h
            clear h b1 h1 h2 h3 h4
            go_enter Tryz.func68, Tryz.ntmps68
            go_wp2
            go_ret
            exact ⟨rfl, rfl⟩
          · rw [if_neg h5] at h
            cases h
set_option maxRecDepth 100000 in
theorem implNoWords (x : Int) (h : fwA x = none) (w : World) : Calls Tryz.prog 68 #[.int .i64 x] w fun e w' => e = .returned (.slice none 0 0) ∧ w' = w := by
  unfold fwA at h
  have b1 : ¬ x = 1 := fun e => by subst e; cases h
  have b2 : ¬ x = 13 := fun e => by subst e; cases h
  have b3 : ¬ x = 14 := fun e => by subst e; cases h
  have b4 : ¬ x = 17 := fun e => by subst e; cases h
  have b5 : ¬ x = 18 := fun e => by subst e; cases h
  clear h
  go_enter Tryz.func68, Tryz.ntmps68
  go_wp2
  go_ret
  exact ⟨rfl, rfl⟩

/-- What kinds with words tell. -/
theorem frx_words {x n : Int} {A : Array Value} {s : List UInt8} (h : fwA x = some A) (h01 : n = 0 ∨ n = 1) (h0 : x = 13 ∨ x = 14 → n = 0) : ∃ k : Nat, n = (k : Int) ∧ k < A.size ∧ A[k]? = some (.string (bsV (frx x n s))) ∧ (frx x n s).length ≤ 5 := by
  unfold fwA at h
  by_cases h1 : x = 1
  · subst h1
    obtain rfl := Option.some.inj h
    rcases h01 with rfl | rfl
    · exact ⟨0, rfl, by decide, rfl, by simp [frx]⟩
    · exact ⟨1, rfl, by decide, rfl, by simp [frx]⟩
  · rw [if_neg h1] at h
    by_cases h2 : x = 13
    · subst h2
      obtain rfl := Option.some.inj h
      obtain rfl := h0 (.inl rfl)
      exact ⟨0, rfl, by decide, rfl, by simp [frx]⟩
    · rw [if_neg h2] at h
      by_cases h3 : x = 14
      · subst h3
        obtain rfl := Option.some.inj h
        obtain rfl := h0 (.inr rfl)
        exact ⟨0, rfl, by decide, rfl, by simp [frx]⟩
      · rw [if_neg h3] at h
        by_cases h4 : x = 17
        · subst h4
          obtain rfl := Option.some.inj h
          rcases h01 with rfl | rfl
          · exact ⟨0, rfl, by decide, rfl, by simp [frx]⟩
          · exact ⟨1, rfl, by decide, rfl, by simp [frx]⟩
        · rw [if_neg h4] at h
          by_cases h5 : x = 18
          · subst h5
            obtain rfl := Option.some.inj h
            rcases h01 with rfl | rfl
            · exact ⟨0, rfl, by decide, rfl, by simp [frx]⟩
            · exact ⟨1, rfl, by decide, rfl, by simp [frx]⟩
          · rw [if_neg h5] at h
            cases h

theorem strV (l : List UInt8) : Lib.strCells (bsV l) = bv l := by simp [Lib.strCells, bsV, bv]
theorem sizV (l : List UInt8) : (bsV l).size = l.length := by simp [bsV, ByteArray.size]
/-- What front tells. -/
def FrP (B : Nat) (bs D : List UInt8) (w : World) (e : Ending) (w' : World) : Prop := ∃ v', e = .returned v' ∧ w'.ownsRow B 5 1 v' (bs ++ D).length (bv (bs ++ D)) ∧ KeepO 5 w w' ∧ Below B w w'

set_option maxRecDepth 100000 in
set_option maxHeartbeats 1600000 in
theorem implFrontW (B : Nat) (v : Value) (bs D : List UInt8) (x up : Int) (k : Nat) (A : Array Value) (s : ByteArray) (w : World) (hown : w.ownsRow B 5 1 v bs.length (bv bs)) (hB : B ≤ w.heap.size) (hlen : bs.length ≤ 2000000000)
    (hA : fwA x = some A) (hk : k < A.size) (hA2 : A.size ≤ 2) (hS : A[k]? = some (.string (bsV D))) (hl : D.length ≤ 5) : Calls Tryz.prog 45 #[v, .int .i64 x, .agg #[.int .i64 (k : Int), .string s, .int .i64 up]] w (FrP B bs D w) := by
  obtain ⟨i0, hi, hz0, hz1, hz2⟩ := info_parts Tryz.infoq5
  have W := implWords x A hA
  obtain ⟨S, hSS⟩ : ∃ S, bsV D = S := ⟨_, rfl⟩
  have hsz : S.size = D.length := by rw [← hSS]; exact sizV D
  have hsc : Hid (Lib.strCells S = bv D) := by unfold Hid; rw [← hSS]; exact strV D
  rw [hSS] at hS
  clear hSS hA
  unfold FrP
  go_enter Tryz.func45, Tryz.ntmps45
  go_wp2_with fail
  refine (W _).mono ?_
  rintro e w2 ⟨rfl, hw2⟩
  have c0 : w2.cell? ⟨w.heap.size, 0, none⟩ = some (.int .i64 (k : Int)) := by
    rw [hw2]
    exact (((Below.refl (w.heap.size + 1) (w.alloc (.cells #[.int .i64 (k : Int), .string s, .int .i64 up] 57))).alloc (by simp) (.cells A 9)).cell (p := ⟨w.heap.size, 0, none⟩) (by simp)).trans (cells_litV w _ _ 0 _ rfl)
  have c1 : w2.cell? ⟨w.heap.size + 1, k, none⟩ = some (.string S) := by
    rw [hw2]
    have h := cells_litV (w.alloc (.cells #[.int .i64 (k : Int), .string s, .int .i64 up] 57)) A 9 k (.string S) (by rw [Array.getElem?_toList]; exact hS)
    rw [Addr.add_lit, Nat.zero_add] at h
    simpa using h
  have hown2 : w2.ownsRow B 5 1 v bs.length (bv bs) := by rw [hw2]; exact (hown.alloc _).alloc _
  have HB2 : Hid (Below B w w2) := by unfold Hid; rw [hw2]; exact ((Below.refl B w).alloc hB _).alloc (by simp; omega) _
  have HK2 : Hid (KeepO 5 w w2) := by unfold Hid; rw [hw2]; exact ((KeepO.refl _ _).alloc _).alloc _
  have hs2 : B ≤ w2.heap.size := by rw [hw2]; simp; omega
  have hsx : (w.alloc (.cells #[.int .i64 (k : Int), .string s, .int .i64 up] 57)).heap.size = w.heap.size + 1 := by simp
  rw [hsx]
  have hd1 : decide (0 < A.size) = true := by simp; omega
  have hAi : (0 : Int) < (A.size : Int) := by omega
  have hki : (k : Int) < (A.size : Int) := by omega
  clear hw2 W hS hown hsx
  go_wp2_with (at_builtin; refine Lib.wpList_append_own_string _ rfl _ _ 67 9 rfl B 5 i0 Tryz.underlying67 Tryz.underlying9 hi hz0 hz1 hz2 _ _ _ rfl hown2 S rfl ?d1 ?d2 ?d3 ?_)
  case d1 => unfold maxLen; omega
  case d2 => omega
  case d3 => exact hs2
  intro v3 w3 hown3 hgrow3 _
  have hown4 : w3.ownsRow B 5 1 v3 (bs ++ D).length (bv (bs ++ D)) := by
    rw [hsc.out, bv_app] at hown3
    rw [List.length_append]; exact hown3
  have hb3 : Hid (Below B w w3) := HB2.out.grown hgrow3 hs2 (ownsRow_block hown2)
  have hk3 : Hid (KeepO 5 w w3) := HK2.out.app0 hown2 hgrow3
  clear hown3 hgrow3 hown2 HB2 HK2 c0 c1
  go_wp2
  go_ret
  exact ⟨_, rfl, hown4, hk3.out, hb3.out⟩

theorem keepO_others {w w' : World} (h : Lib.OthersKept 5 none w w') : KeepO 5 w w' := fun j A e' hne hb => h j _ hb (by simp) (fun c fz hc => hne (by cases hc; rfl))
theorem u64_of (n : Int) (h0 : -9223372036854775808 ≤ n) (h1 : n ≤ 9223372036854775807) : ∃ u : Nat, IntKind.u64.wrap n = (u : Int) ∧ u < 18446744073709551616 ∧ utx n = Lib.decDigits u := by
  by_cases h : 0 ≤ n
  · refine ⟨n.toNat, ?_, by omega, by unfold utx; rw [if_pos h]⟩
    rw [IntKind.wrap_u64]; omega
  · refine ⟨(n + 18446744073709551616).toNat, ?_, by omega, by unfold utx; rw [if_neg h]⟩
    rw [IntKind.wrap_u64]; omega

set_option maxRecDepth 100000 in
theorem stdUint (B u : Nat) (v : Value) (bs : List UInt8) (w : World) (hu : u < 18446744073709551616) (hown : w.ownsRow B 5 1 v bs.length (bv bs)) (hB : B ≤ w.heap.size) (hlen : bs.length ≤ 2000000000) (hP : Lib.TabBelow Tryz.prog B w "internal/strconv.uint64pow10" .u64 Lib.pow10Tab) :
    Calls Tryz.prog 70 #[v, .int .u64 (u : Int), .int .i64 10] w (FrP B bs (Lib.decDigits u) w) := by
  have I := Tryz.internal_strconv_AppendUint_10 B bs.length u hu v (bv bs) w hown hB (by omega) (hP w (Below.refl _ _))
  unfold FrP
  clear hP
  go_enter Tryz.func70, Tryz.ntmps70
  go_wp2_with fail
  refine I.mono ?_
  rintro e w1 ⟨v1, rfl, hown1, hb1, ho1⟩
  clear I hown
  go_wp2
  go_ret
  refine ⟨_, rfl, ?_, keepO_others ho1, hb1⟩
  rw [List.length_append, ← bv_app]
  exact hown1

set_option maxRecDepth 100000 in
set_option maxHeartbeats 1600000 in
theorem implFrontS (B : Nat) (v : Value) (bs : List UInt8) (n up : Int) (s : ByteArray) (w : World) (hown : w.ownsRow B 5 1 v bs.length (bv bs)) (hB : B ≤ w.heap.size) (hlen : bs.length ≤ 2000000000) (hs : s.size ≤ 1048576) :
    Calls Tryz.prog 45 #[v, .int .i64 12, .agg #[.int .i64 n, .string s, .int .i64 up]] w (FrP B bs (qtx s.data.toList) w) := by
  have W := implNoWords 12 rfl
  have Q := implQuoted B v bs s (w.alloc (.cells #[.int .i64 n, .string s, .int .i64 up] 57)) (hown.alloc _) (by simp; omega) hs hlen
  unfold FrP
  go_enter Tryz.func45, Tryz.ntmps45
  go_wp2_with fail
  refine (W _).mono ?_
  rintro e w2 ⟨rfl, hw2⟩
  obtain rfl := hw2.symm
  clear hw2 W
  go_wp2_with fail
  refine Q.mono ?_
  rintro e w3 ⟨v3, rfl, hown3, hk3, hb3⟩
  clear Q hown
  have hb4 : Hid (Below B w w3) := ((Below.refl B w).alloc hB _).trans hb3
  have hk4 : Hid (KeepO 5 w w3) := ((KeepO.refl _ _).alloc _).trans hk3
  go_wp2
  go_ret
  exact ⟨_, rfl, hown3, hk4.out, hb4.out⟩

set_option maxRecDepth 100000 in
set_option maxHeartbeats 1600000 in
theorem implFrontU (B : Nat) (v : Value) (bs : List UInt8) (n up : Int) (s : ByteArray) (w : World) (hown : w.ownsRow B 5 1 v bs.length (bv bs)) (hB : B ≤ w.heap.size) (hlen : bs.length ≤ 2000000000) (h0 : -9223372036854775808 ≤ n) (h1 : n ≤ 9223372036854775807) (hP : Lib.TabBelow Tryz.prog B w "internal/strconv.uint64pow10" .u64 Lib.pow10Tab) :
    Calls Tryz.prog 45 #[v, .int .i64 8, .agg #[.int .i64 n, .string s, .int .i64 up]] w (FrP B bs (utx n) w) := by
  obtain ⟨u, hu, hu2, hu3⟩ := u64_of n h0 h1
  have W := implNoWords 8 rfl
  have Q := stdUint B u v bs (w.alloc (.cells #[.int .i64 n, .string s, .int .i64 up] 57)) hu2 (hown.alloc _) (by simp; omega) hlen (fun w' h => hP w' (((Below.refl B w).alloc hB _).trans h))
  rw [hu3]
  unfold FrP at Q ⊢
  clear hP h0 h1 hu2 hu3
  go_enter Tryz.func45, Tryz.ntmps45
  go_wp2_with fail
  refine (W _).mono ?_
  rintro e w2 ⟨rfl, hw2⟩
  obtain rfl := hw2.symm
  clear hw2 W
  go_wp2_with fail
  refine Q.mono ?_
  rintro e w3 ⟨v3, rfl, hown3, hk3, hb3⟩
  clear Q hown
  have hb4 : Hid (Below B w w3) := ((Below.refl B w).alloc hB _).trans hb3
  have hk4 : Hid (KeepO 5 w w3) := ((KeepO.refl _ _).alloc _).trans hk3
  go_wp2
  go_ret
  exact ⟨_, rfl, hown3, hk4.out, hb4.out⟩

set_option maxRecDepth 100000 in
set_option maxHeartbeats 1600000 in
theorem implFrontI (B : Nat) (v : Value) (bs : List UInt8) (x n up : Int) (s : ByteArray) (w : World) (hown : w.ownsRow B 5 1 v bs.length (bv bs)) (hB : B ≤ w.heap.size) (hlen : bs.length ≤ 2000000000) (h0 : -9223372036854775808 ≤ n) (h1 : n ≤ 9223372036854775807)
    (hP : Lib.TabBelow Tryz.prog B w "internal/strconv.uint64pow10" .u64 Lib.pow10Tab) (hx : fwA x = none) (x8 : ¬ x = 8) (x12 : ¬ x = 12) :
    Calls Tryz.prog 45 #[v, .int .i64 x, .agg #[.int .i64 n, .string s, .int .i64 up]] w (FrP B bs (itx n ++ mkx x) w) := by
  obtain ⟨i0, hi, hz0, hz1, hz2⟩ := info_parts Tryz.infoq5
  have W := implNoWords x hx
  have hil := itx_len h0 h1
  have Q := Tryz.strconv_AppendInt_10 B bs.length n h0 h1 v (bv bs) (w.alloc (.cells #[.int .i64 n, .string s, .int .i64 up] 57)) (hown.alloc _) (by simp; omega) (by omega) (fun w' h => hP w' (((Below.refl B w).alloc hB _).trans h))
  have HT : Hid (bv bs ++ Lib.byteCells (Lib.itoa n) = bv (bs ++ itx n)) := by unfold Hid; rw [← bv_app]; rfl
  have HL : Hid (Lib.itoa n = itx n) := rfl
  have M := implMark x
  obtain ⟨S, hSS⟩ : ∃ S, bsV (mkx x) = S := ⟨_, rfl⟩
  have hsz : S.size = (mkx x).length := by rw [← hSS]; exact sizV _
  have hm1 : (mkx x).length ≤ 1 := by unfold mkx; split <;> simp
  have hsc : Hid (Lib.strCells S = bv (mkx x)) := by unfold Hid; rw [← hSS]; exact strV _
  rw [hSS] at M
  unfold FrP
  rw [← List.append_assoc]
  generalize mkx x = D at *
  clear hP h0 h1 hx hSS
  go_enter Tryz.func45, Tryz.ntmps45
  go_wp2_with fail
  refine (W _).mono ?_
  rintro e w2 ⟨rfl, hw2⟩
  obtain rfl := hw2.symm
  clear hw2 W
  go_wp2_with fail
  refine Q.mono ?_
  rintro e w3 ⟨v3, rfl, hown3, hb3, hk3⟩
  clear Q hown
  rw [HT.out, HL.out] at hown3
  have hown4 : w3.ownsRow B 5 1 v3 (bs ++ itx n).length (bv (bs ++ itx n)) := by rw [List.length_append]; exact hown3
  have hb4 : Hid (Below B w w3) := ((Below.refl B w).alloc hB _).trans hb3
  have hk4 : Hid (KeepO 5 w w3) := ((KeepO.refl _ _).alloc _).trans (keepO_others hk3)
  have hs3 : B ≤ w3.heap.size := Nat.le_trans hB hb4.out.size
  have hl4 : (bs ++ itx n).length ≤ 2000000021 := by rw [List.length_append]; omega
  clear hown3 hb3 hk3 HT HL hil
  obtain ⟨C, hC⟩ : ∃ C, bs ++ itx n = C := ⟨_, rfl⟩
  have HC : Hid (bs ++ itx n = C) := hC
  rw [hC] at hown4 hl4
  clear hC
  go_wp2_with fail
  refine (M _).mono ?_
  rintro e w5 ⟨rfl, hw5⟩
  obtain rfl := hw5.symm
  clear hw5 M
  go_wp2_with (at_builtin; refine Lib.wpList_append_own_string _ rfl _ _ 67 9 rfl B 5 i0 Tryz.underlying67 Tryz.underlying9 hi hz0 hz1 hz2 _ _ _ rfl hown4 S rfl ?d1 ?d2 ?d3 ?_)
  case d1 => unfold maxLen; omega
  case d2 => omega
  case d3 => exact hs3
  intro v6 w6 hown6 hgrow6 _
  have hown7 : w6.ownsRow B 5 1 v6 (C ++ D).length (bv (C ++ D)) := by
    rw [hsc.out, bv_app] at hown6
    rw [List.length_append]; exact hown6
  have hb7 : Hid (Below B w w6) := hb4.out.grown hgrow6 hs3 (ownsRow_block hown4)
  have hk7 : Hid (KeepO 5 w w6) := hk4.out.app0 hown4 hgrow6
  clear hown6 hgrow6 hown4 hb4 hk4
  go_wp2
  go_ret
  rw [← HC.out] at hown7
  exact ⟨_, rfl, hown7, hk7.out, hb7.out⟩

/-- What stands ahead of the parts, whole. -/
theorem implFront (B : Nat) (v : Value) (bs : List UInt8) (x n up : Int) (s : ByteArray) (w : World) (hown : w.ownsRow B 5 1 v bs.length (bv bs)) (hB : B ≤ w.heap.size) (hlen : bs.length ≤ 2000000000) (hs : s.size ≤ 1048576) (h0 : -9223372036854775808 ≤ n) (h1 : n ≤ 9223372036854775807)
    (hP : Lib.TabBelow Tryz.prog B w "internal/strconv.uint64pow10" .u64 Lib.pow10Tab) (hw : x = 1 ∨ x = 13 ∨ x = 14 ∨ x = 17 ∨ x = 18 → n = 0 ∨ n = 1) (hz : x = 13 ∨ x = 14 → n = 0) :
    Calls Tryz.prog 45 #[v, .int .i64 x, .agg #[.int .i64 n, .string s, .int .i64 up]] w (FrP B bs (frx x n s.data.toList) w) := by
  cases hA : fwA x with
  | some A =>
    have hxw : x = 1 ∨ x = 13 ∨ x = 14 ∨ x = 17 ∨ x = 18 := by
      unfold fwA at hA
      by_cases e1 : x = 1
      · exact .inl e1
      · by_cases e2 : x = 13
        · exact .inr (.inl e2)
        · by_cases e3 : x = 14
          · exact .inr (.inr (.inl e3))
          · by_cases e4 : x = 17
            · exact .inr (.inr (.inr (.inl e4)))
            · by_cases e5 : x = 18
              · exact .inr (.inr (.inr (.inr e5)))
              · rw [if_neg e1, if_neg e2, if_neg e3, if_neg e4, if_neg e5] at hA
                cases hA
    obtain ⟨k, rfl, hk, hS, hl⟩ := frx_words (s := s.data.toList) hA (hw hxw) hz
    have hA2 : A.size ≤ 2 := by
      unfold fwA at hA
      repeat' split at hA
      all_goals first | (obtain rfl := Option.some.inj hA; decide) | cases hA
    exact implFrontW B v bs _ x up k A s w hown hB hlen hA hk hA2 hS hl
  | none =>
    by_cases x12 : x = 12
    · subst x12
      exact implFrontS B v bs n up s w hown hB hlen hs
    · by_cases x8 : x = 8
      · subst x8
        exact implFrontU B v bs n up s w hown hB hlen h0 h1 hP
      · have e : frx x n s.data.toList = itx n ++ mkx x := by
          have b1 : ¬ x = 1 := fun e => by subst e; cases hA
          have b2 : ¬ x = 13 := fun e => by subst e; cases hA
          have b3 : ¬ x = 14 := fun e => by subst e; cases hA
          have b4 : ¬ x = 17 := fun e => by subst e; cases hA
          have b5 : ¬ x = 18 := fun e => by subst e; cases hA
          unfold frx mkx
          rw [if_neg b1, if_neg x8, if_neg x12, if_neg b2, if_neg b3]
          by_cases e15 : x = 15
          · rw [if_pos e15, if_pos e15]
          · rw [if_neg e15, if_neg e15, if_neg b4, if_neg b5, List.append_nil]
        rw [e]
        exact implFrontI B v bs x n up s w hown hB hlen h0 h1 hP hA x8 x12

end Go.Proofs.YtljnciclbjcinaaGreatDoor

namespace Go.Proofs.YtljnciclbjcinaaGreatDoor
open Go.ChangeShapes Go.WideShapes Go.ChangeAt Go.RowKit

/-- A row of trees whose parts lie from lo to hi, and which lies there itself or in a block of its own type. -/
def RowQ (L : List Nd) (lo hi f : Nat) (w : World) (ks : List Nat) (sl : Value) : Prop := ∃ b1 c1, sl = .slice b1 ks.length c1 ∧ ∀ j (h : j < ks.length), ∃ g off sl', b1 = some ⟨g, off, none⟩ ∧ ((lo ≤ g ∧ g < hi) ∨ ∃ arr, w.heap[g]? = some (.cells arr 61 (0, 0))) ∧
  w.cell? ⟨g, off + j * 4, none⟩ = some (.int .i64 (kdAt L ks[j])) ∧ w.cell? ⟨g, off + j * 4 + 1, none⟩ = some (.int .i64 (nAt L ks[j])) ∧ w.cell? ⟨g, off + j * 4 + 2, none⟩ = some (.int .i64 (upAt L ks[j])) ∧ w.cell? ⟨g, off + j * 4 + 3, none⟩ = some sl' ∧ RN L lo hi f w ks[j] sl'
theorem rowQ_of {L : List Nd} {lo hi f : Nat} {w w' : World} {ks : List Nat} {sl : Value} (h : Row4 (fun k => .int .i64 (kdAt L k)) (fun k => .int .i64 (nAt L k)) (fun k => .int .i64 (upAt L k)) (R4 (fun k => .int .i64 (kdAt L k)) (fun k => .int .i64 (nAt L k)) (fun k => .int .i64 (upAt L k)) (kidsOf L) lo hi f) lo hi w ks sl) (hhi : hi ≤ w.heap.size) (hb : Below w.heap.size w w') : RowQ L lo hi f w' ks sl := by
  obtain ⟨a, cap, e, hc, hh⟩ := h
  refine ⟨a, cap, e, fun j hj => ?_⟩
  obtain ⟨g, off, sl', h3, h4, h5, h6, h7, h8, h8', h9⟩ := hh j hj
  have hg := hb.block g (by omega)
  exact ⟨g, off, sl', h3, .inl ⟨h4, h5⟩, (cell_heap hg _).trans h6, (cell_heap hg _).trans h7, (cell_heap hg _).trans h8, (cell_heap hg _).trans h8', R4.below h9 hb hhi⟩
/-- Behind what writes bytes alone it is as it was. -/
theorem RowQ.keep {L : List Nd} {lo hi f B : Nat} {w w' : World} {ks : List Nat} {sl : Value} (h : RowQ L lo hi f w ks sl) (hhi : hi ≤ B) (hb : Below B w w') (hk : KeepO 5 w w') : RowQ L lo hi f w' ks sl := by
  obtain ⟨a, cap, e, hh⟩ := h
  refine ⟨a, cap, e, fun j hj => ?_⟩
  obtain ⟨g, off, sl', h3, h4, h6, h7, h8, h8', h9⟩ := hh j hj
  have hg : w'.heap[g]? = w.heap[g]? := by
    rcases h4 with ⟨_, h5⟩ | ⟨arr, h5⟩
    · exact hb.block g (by omega)
    · rw [h5]; exact hk _ _ _ (by decide) h5
  refine ⟨g, off, sl', h3, ?_, (cell_heap hg _).trans h6, (cell_heap hg _).trans h7, (cell_heap hg _).trans h8, (cell_heap hg _).trans h8', R4.below h9 hb hhi⟩
  rcases h4 with h5 | ⟨arr, h5⟩
  · exact .inl h5
  · exact .inr ⟨arr, hg.trans h5⟩

def KidsBQ (L : List Nd) (f k : Nat) : Prop := ∀ (w : World) (lo hi : Nat) (a : Option Addr) (cap : Nat) (n : Int) (c : Nat), (kidsOf L k).length ≤ cap →
  Hid (∀ j (h : j < (kidsOf L k).length), ∃ g off sl', a = some ⟨g, off, none⟩ ∧ lo ≤ g ∧ g < hi ∧
    w.cell? ⟨g, off + j * 4, none⟩ = some (.int .i64 (kdAt L (kidsOf L k)[j])) ∧ w.cell? ⟨g, off + j * 4 + 1, none⟩ = some (.int .i64 (nAt L (kidsOf L k)[j])) ∧ w.cell? ⟨g, off + j * 4 + 2, none⟩ = some (.int .i64 (upAt L (kidsOf L k)[j])) ∧ w.cell? ⟨g, off + j * 4 + 3, none⟩ = some sl' ∧ RN L lo hi f w (kidsOf L k)[j] sl') → hi ≤ w.heap.size → tkOk (kdAt L k) (kidsOf L k) n c → (kdAt L k ≠ 13 → kdAt L k ≠ 14 → kdAt L k ≠ 15 → kdAt L k ≠ 17 → kdAt L k ≠ 18 → kidsOf L k = []) →
  Calls Tryz.prog 73 #[.int .i64 (kdAt L k), .slice a (kidsOf L k).length cap, .int .i64 n, .int .i64 (c : Int)] w fun e w' => ∃ sl, e = .returned sl ∧ RowQ L lo hi f w' (tk (kdAt L k) (kidsOf L k) n c) sl ∧ Below w.heap.size w w'

def KidsPQ (L : List Nd) (f k : Nat) : Prop := ∀ (w : World) (lo hi : Nat) (a : Option Addr) (cap : Nat) (u n : Int) (c : Nat), (kidsOf L k).length ≤ cap →
  Hid (∀ j (h : j < (kidsOf L k).length), ∃ g off sl', a = some ⟨g, off, none⟩ ∧ lo ≤ g ∧ g < hi ∧
    w.cell? ⟨g, off + j * 4, none⟩ = some (.int .i64 (kdAt L (kidsOf L k)[j])) ∧ w.cell? ⟨g, off + j * 4 + 1, none⟩ = some (.int .i64 (nAt L (kidsOf L k)[j])) ∧ w.cell? ⟨g, off + j * 4 + 2, none⟩ = some (.int .i64 (upAt L (kidsOf L k)[j])) ∧ w.cell? ⟨g, off + j * 4 + 3, none⟩ = some sl' ∧ RN L lo hi f w (kidsOf L k)[j] sl') → hi ≤ w.heap.size → tkOk (kdAt L k) (kidsOf L k) n c → (kdAt L k ≠ 13 → kdAt L k ≠ 14 → kdAt L k ≠ 15 → kdAt L k ≠ 17 → kdAt L k ≠ 18 → kidsOf L k = []) →
  Calls Tryz.prog 46 #[.agg #[.int .i64 (kdAt L k), .int .i64 (nAt L k), .int .i64 u, .slice a (kidsOf L k).length cap], .int .i64 n, .int .i64 (c : Int)] w fun e w' => ∃ sl, e = .returned sl ∧ RowQ L lo hi f w' (tk (kdAt L k) (kidsOf L k) n c) sl ∧ Below w.heap.size w w'

set_option maxRecDepth 100000 in
set_option maxHeartbeats 3200000 in
theorem implKids_restQ (L : List Nd) (f k : Nat) (h13 : kdAt L k ≠ 13) : KidsBQ L f k := by
  intro w lo hi a cap n c hcap H hhi hok hnil
  obtain ⟨_, _, o15, o17, o40⟩ := hok
  obtain ⟨K, hK⟩ : ∃ K, kidsOf L k = K := ⟨_, rfl⟩
  have HROW : Hid (Row4 (fun k => .int .i64 (kdAt L k)) (fun k => .int .i64 (nAt L k)) (fun k => .int .i64 (upAt L k)) (R4 (fun k => .int .i64 (kdAt L k)) (fun k => .int .i64 (nAt L k)) (fun k => .int .i64 (upAt L k)) (kidsOf L) lo hi f) lo hi w K (.slice a K.length cap)) := by
    subst hK
    exact ⟨a, cap, rfl, hcap, H.out⟩
  have HH : Hid (∀ j (h : j < K.length), ∃ g off sl', a = some ⟨g, off, none⟩ ∧ lo ≤ g ∧ g < hi ∧
    w.cell? ⟨g, off + j * 4, none⟩ = some (.int .i64 (kdAt L K[j])) ∧ w.cell? ⟨g, off + j * 4 + 1, none⟩ = some (.int .i64 (nAt L K[j])) ∧ w.cell? ⟨g, off + j * 4 + 2, none⟩ = some (.int .i64 (upAt L K[j])) ∧ w.cell? ⟨g, off + j * 4 + 3, none⟩ = some sl' ∧ RN L lo hi f w K[j] sl') := by
    subst hK; exact H.out
  rw [hK] at hcap o15 o17 o40 hnil ⊢
  obtain ⟨x, hx⟩ : ∃ x, kdAt L k = x := ⟨_, rfl⟩
  rw [hx] at h13 o15 o17 hnil ⊢
  clear hx hK H
  have e13 : (x == 13) = false := by rw [beq_eq_false_iff_ne]; exact h13
  by_cases h15 : x = 15 ∨ x = 18
  · obtain ⟨n0, n1⟩ := o15 h15
    obtain ⟨N, hN⟩ : ∃ N : Nat, n = (N : Int) := ⟨n.toNat, by omega⟩
    subst hN
    have hNK : N < K.length := by omega
    obtain ⟨g, off, _, hga, _, _, _⟩ := HH.out N hNK
    have ht : tk x K (N : Int) c = (K.drop N).take 1 := by
      unfold tk; rw [if_neg h13, if_neg (by omega), if_pos h15]; rfl
    have HCUT : Hid (Row4 (fun k => .int .i64 (kdAt L k)) (fun k => .int .i64 (nAt L k)) (fun k => .int .i64 (upAt L k)) (R4 (fun k => .int .i64 (kdAt L k)) (fun k => .int .i64 (nAt L k)) (fun k => .int .i64 (upAt L k)) (kidsOf L) lo hi f) lo hi w ((K.drop N).take 1) (.slice (some ⟨g, off + N * 4, none⟩) 1 (cap - N))) := Row4.cut HH.out N 1 g off hga (by omega) (by omega)
    subst hga
    rw [ht]
    have hw1 : wrap64 ((N : Int) + 1) = (N : Int) + 1 := w64v (by omega) (by omega)
    have hNc : ¬ (cap : Int) < (N : Int) + 1 := by omega
    clear ht
    rcases h15 with rfl | rfl
    all_goals
      go_enter Tryz.func73, Tryz.ntmps73
      go_wp2
      go_ret
      refine ⟨_, rfl, rowQ_of HCUT.out hhi ?_, ?_⟩ <;> (repeat (first | refine Below.alloc ?_ (by first | (simp; done) | (simp; omega)) _ | refine Below.setCell ?_ (by first | (simp; done) | (simp; omega)) _ | refine bel_dN ?_ _ | refine Below.drew ?_ | exact Below.refl _ _))
  · have e15 : (x == 15) = false := by rw [beq_eq_false_iff_ne]; exact fun h => h15 (Or.inl h)
    have e18 : (x == 18) = false := by rw [beq_eq_false_iff_ne]; exact fun h => h15 (Or.inr h)
    by_cases h17 : x = 17
    · obtain ⟨n0, n1, n2⟩ := o17 h17
      obtain ⟨N, hN⟩ : ∃ N : Nat, n = (N : Int) := ⟨n.toNat, by omega⟩
      subst hN
      obtain ⟨g, off, _, hga, _, _, _⟩ := HH.out 0 n2
      have ht : tk x K (N : Int) c = (K.drop 0).take N := by
        unfold tk; rw [if_neg h13, if_neg (by omega), if_neg h15, if_pos h17]; rfl
      have HCUT : Hid (Row4 (fun k => .int .i64 (kdAt L k)) (fun k => .int .i64 (nAt L k)) (fun k => .int .i64 (upAt L k)) (R4 (fun k => .int .i64 (kdAt L k)) (fun k => .int .i64 (nAt L k)) (fun k => .int .i64 (upAt L k)) (kidsOf L) lo hi f) lo hi w ((K.drop 0).take N) (.slice (some ⟨g, off + 0 * 4, none⟩) N cap)) := Row4.cut HH.out 0 N g off hga (by omega) (by omega)
      rw [Nat.zero_mul, Nat.add_zero] at HCUT
      subst hga h17
      rw [ht]
      have hNc : ¬ (cap : Int) < (N : Int) := by omega
      clear ht
      go_enter Tryz.func73, Tryz.ntmps73
      go_wp2
      go_ret
      refine ⟨_, rfl, rowQ_of HCUT.out hhi ?_, ?_⟩ <;> (repeat (first | refine Below.alloc ?_ (by first | (simp; done) | (simp; omega)) _ | refine Below.setCell ?_ (by first | (simp; done) | (simp; omega)) _ | refine bel_dN ?_ _ | refine Below.drew ?_ | exact Below.refl _ _))
    · have e17 : (x == 17) = false := by rw [beq_eq_false_iff_ne]; exact h17
      have ht : tk x K n c = K := by
        unfold tk
        rw [if_neg h13]
        by_cases h14 : x = 14
        · rw [if_pos h14]
        · rw [if_neg h14, if_neg h15, if_neg h17, hnil h13 h14 (fun h => h15 (Or.inl h)) h17 (fun h => h15 (Or.inr h))]
      rw [ht]
      clear ht hnil
      go_enter Tryz.func73, Tryz.ntmps73
      go_wp2
      go_ret
      refine ⟨_, rfl, rowQ_of HROW.out hhi ?_, ?_⟩ <;> (repeat (first | refine Below.alloc ?_ (by first | (simp; done) | (simp; omega)) _ | refine Below.setCell ?_ (by first | (simp; done) | (simp; omega)) _ | refine bel_dN ?_ _ | refine Below.drew ?_ | exact Below.refl _ _))

set_option maxRecDepth 100000 in
set_option maxHeartbeats 3200000 in
theorem implKids_listQ (L : List Nd) (f k : Nat) (h13 : kdAt L k = 13) : KidsBQ L f k := by
  intro w lo hi a cap n c hcap H hhi hok _
  obtain ⟨hc100, o13, _, _, _⟩ := hok
  have hK1 := o13 h13
  obtain ⟨K0, hK⟩ : ∃ K0, kidsOf L k = [K0] := List.length_eq_one_iff.1 hK1
  obtain ⟨g, off, sl', rfl, g1, g2, c0, c1, c2, c3, tr⟩ := H.out 0 (by omega)
  simp only [hK] at c0 c1 c2 c3 tr
  simp only [List.getElem_cons_zero, Nat.zero_mul, Nat.add_zero] at c0 c1 c2 c3 tr
  rw [h13, hK]
  have ht : tk 13 [K0] n c = List.replicate c K0 := by simp [tk]
  rw [ht]
  obtain ⟨sa, sn, sc, rfl⟩ := R4.form tr
  have HTR : Hid (RN L lo hi f w K0 (.slice sa sn sc)) := tr
  rw [hK] at hcap
  have HE0 : Hid (∀ j v, [Value.int .i64 (kdAt L K0), .int .i64 (nAt L K0), .int .i64 (upAt L K0), .slice sa sn sc][j]? = some v → w.cell? ⟨g, off + j, none⟩ = some v) := fun j v hj => by
    match j, hj with
    | 0, hj => simp at hj; subst hj; exact c0
    | 1, hj => simp at hj; subst hj; exact c1
    | 2, hj => simp at hj; subst hj; exact c2
    | 3, hj => simp at hj; subst hj; exact c3
  have HREP : Hid (∀ W, Below w.heap.size w W → Calls Tryz.prog 92 #[.slice (some ⟨g, off, none⟩) 1 cap, .int .i64 (c : Int)] W fun e w' => ∃ arr : Array Value, e = .returned (.slice (some ⟨W.heap.size, 0, none⟩) c c) ∧ w'.heap[W.heap.size]? = some (.cells arr 61 (0, 0)) ∧ arr.toList.take (c * 4) = rep [Value.int .i64 (kdAt L K0), .int .i64 (nAt L K0), .int .i64 (upAt L K0), .slice sa sn sc] c ∧ Below W.heap.size W w') := fun W hW =>
    libRepeat W g off cap c hc100 _ _ _ _ (by intro v hv; simp at hv; rcases hv with rfl | rfl | rfl | rfl <;> rfl) (Nat.lt_of_lt_of_le (Nat.lt_of_lt_of_le g2 hhi) hW.size) (fun j v hj => (hW.cell (p := ⟨g, off + j, none⟩) (Nat.lt_of_lt_of_le g2 hhi)).trans (HE0.out j v hj))
  clear H ht o13 hK1 hK h13 tr HE0 c0 c1 c2 c3
  simp only [List.length_singleton] at hcap ⊢
  go_enter Tryz.func73, Tryz.ntmps73
  go_wp2_with fail
  refine (HREP.out _ (Below.refl _ _)).mono ?_
  rintro e w1 ⟨arr, rfl, hq, ht, hbw⟩
  have HROW : Hid (RowQ L lo hi f w1 (List.replicate c K0) (.slice (some ⟨w.heap.size, 0, none⟩) c c)) := by
    refine ⟨_, c, by rw [List.length_replicate], fun j hj => ?_⟩
    rw [List.length_replicate] at hj
    have e9 : (List.replicate c K0)[j]'(by rw [List.length_replicate]; exact hj) = K0 := List.getElem_replicate _
    rw [e9]
    have hX : ∀ i v, i < 4 → [Value.int .i64 (kdAt L K0), .int .i64 (nAt L K0), .int .i64 (upAt L K0), .slice sa sn sc][i]? = some v → w1.cell? ⟨w.heap.size, 0 + j * 4 + i, none⟩ = some v := fun i v hi hv => by
      rw [Nat.zero_add, cell_of_block hq, ← Array.getElem?_toList]
      have h9 := rep_get (E := [Value.int .i64 (kdAt L K0), .int .i64 (nAt L K0), .int .i64 (upAt L K0), .slice sa sn sc]) rfl c j i hj hi
      rw [← ht, List.getElem?_take, if_pos (by omega)] at h9
      rw [h9]; exact hv
    exact ⟨w.heap.size, 0, .slice sa sn sc, rfl, .inr ⟨arr, hq⟩, hX 0 _ (by omega) rfl, hX 1 _ (by omega) rfl, hX 2 _ (by omega) rfl, hX 3 _ (by omega) rfl, R4.keep HTR.out fun k _ h2 => hbw.block k (by omega)⟩
  have HB : Hid (Below w.heap.size w w1) := hbw
  clear hq ht hbw HREP
  go_wp2
  go_ret
  exact ⟨_, rfl, HROW.out, HB.out⟩

theorem implBesideQ (L : List Nd) (f k : Nat) : KidsBQ L f k := by
  by_cases h13 : kdAt L k = 13
  · exact implKids_listQ L f k h13
  · exact implKids_restQ L f k h13

set_option maxRecDepth 100000 in
set_option maxHeartbeats 1600000 in
theorem implKidsQ (L : List Nd) (f k : Nat) : KidsPQ L f k := by
  intro w lo hi a cap u n c hcap H hhi hok hnil
  have HBS : Hid (∀ W, Below w.heap.size w W → Calls Tryz.prog 73 #[.int .i64 (kdAt L k), .slice a (kidsOf L k).length cap, .int .i64 n, .int .i64 (c : Int)] W fun e w' => ∃ sl, e = .returned sl ∧ RowQ L lo hi f w' (tk (kdAt L k) (kidsOf L k) n c) sl ∧ Below w.heap.size w w') := fun W hW => by
    refine (implBesideQ L f k W lo hi a cap n c hcap (fun j h => ?_) (Nat.le_trans hhi hW.size) hok hnil).mono ?_
    · obtain ⟨g, off, sl', h0, h1, h2, h3, h4, h5, h6, h7⟩ := H.out j h
      have hg : g < w.heap.size := Nat.lt_of_lt_of_le h2 hhi
      exact ⟨g, off, sl', h0, h1, h2, (hW.cell (p := ⟨g, _, none⟩) hg).trans h3, (hW.cell (p := ⟨g, _, none⟩) hg).trans h4, (hW.cell (p := ⟨g, _, none⟩) hg).trans h5, (hW.cell (p := ⟨g, _, none⟩) hg).trans h6, R4.below h7 hW hhi⟩
    · rintro e w1 ⟨sl, rfl, hr, hb⟩
      exact ⟨sl, rfl, hr, below2 hW hb⟩
  have HAL : Hid (∀ o, Below w.heap.size w (w.alloc o)) := fun o => (Below.refl _ _).alloc (Nat.le_refl _) o
  clear H hok hnil hcap hhi
  obtain ⟨K, hK⟩ : ∃ K, kidsOf L k = K := ⟨_, rfl⟩
  obtain ⟨x, hx⟩ : ∃ x, kdAt L k = x := ⟨_, rfl⟩
  obtain ⟨y, hy⟩ : ∃ y, nAt L k = y := ⟨_, rfl⟩
  rw [hx, hK] at HBS ⊢
  rw [hy]
  clear hx hy hK
  go_enter Tryz.func46, Tryz.ntmps46
  go_wp2_with fail
  refine (HBS.out _ (HAL.out _)).mono ?_
  rintro e w1 ⟨sl, rfl, hr, hb⟩
  have HR : Hid (RowQ L lo hi f w1 (tk x K n c) sl) := hr
  have HB : Hid (Below w.heap.size w w1) := hb
  clear hr hb HBS HAL
  go_wp2
  go_ret
  exact ⟨_, rfl, HR.out, HB.out⟩

end Go.Proofs.YtljnciclbjcinaaGreatDoor
