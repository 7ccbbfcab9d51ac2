/-
  Sections and names come back from their bytes. Plain facts, and TakeName of what NameBytes tells.
-/
import Derived.Test.YtnimlkobcginjaaLLeb2
import Derived.Test.YtnimlkobcginjaaRLaw
import Derived.Test.YtnimlkobcginjaaSecBytes
import Derived.Test.YtnimlkobcginjaaName
namespace Go.Proofs.Ytnimlkobcginjaa
open Go.ChangeShapes Go.WideShapes Go.PlainAid Go.RowKit

theorem Leb.scanF {l : List UInt8} {N : Int} {t : ByteArray} (h : Leb l N) (f : Nat) (hl : l.length ≤ f) : Go.Proofs.Ytnimlkobcginjaa.scan (ByteArray.mk l.toArray ++ t) f 0 = some (l.length - 1) := by
  have hp := h.pos
  refine scan_to _ (l.length - 1) (by rw [lb_size]; omega) ?_ (l.length - 1) f 0 (by omega) (by omega) fun i _ hi => ?_
  · rw [lb_app l t _ (by omega), h.lo]; omega
  · rw [lb_app l t i (by omega), h.hi i (by omega)]; omega

/-- A length in front of whatever stands behind it. -/
theorem tu_len (n : Nat) (h : n ≤ 1000) (t : ByteArray) : tu (ByteArray.mk (ul 10 n).toArray ++ t) 32 = ((n : Int), (ul 10 n).length) ∧ 1 ≤ (ul 10 n).length ∧ (ul 10 n).length ≤ 2 := by
  have hn : n < 128 ^ (9 + 1) := Nat.lt_of_le_of_lt h (by decide)
  have hL := ul_leb 9 n hn
  obtain ⟨h1, h2, h3⟩ := ul_span 9 n hn
  change (ul 10 n).length ≤ 9 + 1 at h1
  change n < 128 ^ (ul 10 n).length at h2
  change (ul 10 n).length ≠ 1 → 128 ^ ((ul 10 n).length - 1) ≤ n at h3
  change Leb (ul 10 n) (n : Int) at hL
  generalize ul 10 n = l at *
  have hp := hL.pos
  have hl2 : l.length ≤ 2 := by
    rcases Nat.lt_or_ge 2 l.length with h' | h'
    · have h4 := h3 (by omega)
      have h5 : 128 ^ 2 ≤ 128 ^ (l.length - 1) := Nat.pow_le_pow_right (by omega) (by omega)
      have h6 : (128 : Nat) ^ 2 = 16384 := by decide
      omega
    · exact h'
  have hsc := hL.scanF (t := t) 5 (by omega)
  have hd : ∀ i, i < l.length → pt (ByteArray.mk l.toArray ++ t) i = (n : Int) / 128 ^ i % 128 := fun i hi => hL.pt i hi
  generalize ByteArray.mk l.toArray ++ t = s at *
  obtain ⟨j, hj⟩ : ∃ j, l.length = j + 1 := ⟨l.length - 1, by omega⟩
  rw [hj] at h2 hsc hd hl2 ⊢
  rw [show j + 1 - 1 = j by omega] at hsc
  refine ⟨?_, by omega, by omega⟩
  have hacc : acc s (j + 1) = n := by
    rw [acc_is s n (j + 1) hd (j + 1) (by omega) (by omega), ipow]
    generalize 128 ^ (j + 1) = P at *
    exact Int.emod_eq_of_lt (by omega) (by omega)
  rw [tu_good s 32 j (by rw [show most 32 = 5 from rfl]; exact hsc) (wide_zero _ _ (pt_lo s j) (pt_hi s j) (by omega)), hacc]

theorem ext_list (l : List UInt8) (i j : Nat) : ((ByteArray.mk l.toArray).extract i j).data.toList = (l.drop i).take (j - i) := by
  simp only [ByteArray.data_extract, Array.toList_extract]
theorem mk_list (l : List UInt8) : (ByteArray.mk l.toArray).data.toList = l := by simp
theorem mk_size (l : List UInt8) : (ByteArray.mk l.toArray).size = l.length := by simp [ByteArray.size]
theorem sz_list (s : ByteArray) : s.data.toList.length = s.size := by rw [Array.length_toList]; rfl

/-- One section is read again, whatever stands behind it. -/
theorem rstep_one (x : Int × ByteArray) (r : List UInt8) (h0 : 0 ≤ x.1) (h1 : x.1 ≤ 20) (h2 : x.2.size ≤ 1000) : rstep (ByteArray.mk (secOne x ++ r).toArray) = some (x, ByteArray.mk r.toArray) := by
  obtain ⟨i, s⟩ := x
  simp only at h0 h1 h2
  have hrest : restOf (ByteArray.mk (secOne (i, s) ++ r).toArray) = ByteArray.mk (ul 10 s.size).toArray ++ ByteArray.mk (s.data.toList ++ r).toArray := by
    apply WideShapes.bytes_inj
    unfold restOf
    rw [ext_list, ByteArray.data_append, Array.toList_append, mk_list, mk_list]
    unfold secOne
    simp only [List.cons_append, List.drop_succ_cons, List.drop_zero, mk_size, List.length_cons]
    rw [List.take_of_length_le (by simp)]
    simp
  obtain ⟨ht, l1, l2⟩ := tu_len s.size h2 (ByteArray.mk (s.data.toList ++ r).toArray)
  rw [← hrest] at ht
  have hsz : (ByteArray.mk (secOne (i, s) ++ r).toArray).size = 1 + (ul 10 s.size).length + s.size + r.length := by
    rw [mk_size]
    unfold secOne
    simp only [List.cons_append, List.length_cons, List.length_append, sz_list]
    omega
  have hb : bt (ByteArray.mk (secOne (i, s) ++ r).toArray) 0 = i := by
    rw [lb_list, mk_list]
    unfold secOne
    simp only [List.cons_append, List.getD_cons_zero]
    rw [loB_nat _ (by omega)]
    omega
  have e1 : (ByteArray.mk (secOne (i, s) ++ r).toArray).extract (1 + (ul 10 s.size).length) (1 + (ul 10 s.size).length + s.size) = s := by
    apply WideShapes.bytes_inj
    rw [ext_list]
    unfold secOne
    rw [show 1 + (ul 10 s.size).length + s.size - (1 + (ul 10 s.size).length) = s.size by omega, Nat.add_comm 1]
    simp only [List.cons_append, List.drop_succ_cons, List.append_assoc]
    rw [List.drop_left, ← sz_list s, List.take_left]
  have e2 : (ByteArray.mk (secOne (i, s) ++ r).toArray).extract (1 + (ul 10 s.size).length + s.size) (ByteArray.mk (secOne (i, s) ++ r).toArray).size = ByteArray.mk r.toArray := by
    apply WideShapes.bytes_inj
    rw [ext_list, mk_list, hsz]
    unfold secOne
    rw [show 1 + (ul 10 s.size).length + s.size = (ul 10 s.size ++ s.data.toList).length + 1 by rw [List.length_append, sz_list]; omega]
    simp only [List.cons_append, List.drop_succ_cons]
    rw [List.drop_left, List.take_of_length_le (by omega)]
  unfold rstep
  rw [ht]
  simp only
  rw [if_neg (by rw [hsz]; omega), hb]
  rw [show ((s.size : Nat) : Int).toNat = s.size from rfl, e1, e2]
theorem rd_secs : ∀ (L : List (Int × ByteArray)) (f : Nat), L.length < f → (∀ x ∈ L, 0 ≤ x.1 ∧ x.1 ≤ 20 ∧ x.2.size ≤ 1000) → rd f (ByteArray.mk (secBytes L).toArray) = some L
  | [], f, hf, _ => by
    obtain ⟨f, rfl⟩ : ∃ k, f = k + 1 := ⟨f - 1, by simp at hf; omega⟩
    exact rd_end f _ (by rw [mk_size]; rfl)
  | x :: L, f, hf, hx => by
    obtain ⟨f, rfl⟩ : ∃ k, f = k + 1 := ⟨f - 1, by simp at hf; omega⟩
    obtain ⟨h0, h1, h2⟩ := hx x (List.mem_cons_self ..)
    have e : secBytes (x :: L) = secOne x ++ secBytes L := by simp [secBytes]
    rw [e, rd_some f _ (by rw [mk_size]; simp [secOne]) x _ (rstep_one x (secBytes L) h0 h1 h2), rd_secs L f (by simp at hf; omega) (fun y hy => hx y (List.mem_cons_of_mem _ hy))]
    rfl
/-- Good sections are read again. -/
theorem rr_secs (L : List (Int × ByteArray)) (hg : secGood L = true) (h4 : (secBytes L).length ≤ 4000) : rr (ByteArray.mk (secBytes L).toArray) = some L := by
  obtain ⟨hl, hk⟩ := secGood_at L hg
  unfold rr
  rw [if_pos (by rw [mk_size]; exact h4), rd_secs L 4001 (by omega) (fun x hx => by
    obtain ⟨k, hk', rfl⟩ := List.getElem_of_mem hx
    exact hk k hk')]
  unfold rs
  simp [hg]

/-- A name that is told is taken again, whatever stands behind it. -/
theorem nameBack (s t : ByteArray) (hs : s.size ≤ 100) (ht : t.size ≤ 100) : ∃ k : Nat, (ByteArray.mk (ul 10 s.size).toArray ++ s).size = k ∧ k ≤ 102 ∧ ∀ w, Calls Try.prog 26 #[.string (ByteArray.mk (ul 10 s.size).toArray ++ s ++ t)] w fun e w' => e = .returned (.tuple #[.string s, .int .i64 (k : Int), .bool true]) ∧ Below w.heap.size w w' := by
  obtain ⟨hu, l1, l2⟩ := tu_len s.size (by omega) (s ++ t)
  have hsz : (ByteArray.mk (ul 10 s.size).toArray ++ s).size = (ul 10 s.size).length + s.size := by rw [ByteArray.size_append, mk_size]
  refine ⟨(ul 10 s.size).length + s.size, hsz, by omega, fun w => ?_⟩
  rw [← ByteArray.append_assoc] at hu
  have hT : (ByteArray.mk (ul 10 s.size).toArray ++ s ++ t).size = (ul 10 s.size).length + s.size + t.size := by rw [ByteArray.size_append, hsz]
  have he : (ByteArray.mk (ul 10 s.size).toArray ++ s ++ t).extract (ul 10 s.size).length ((ul 10 s.size).length + s.size) = s := by
    apply WideShapes.bytes_inj
    rw [ByteArray.data_extract, Array.toList_extract, List.extract_eq_take_drop, ByteArray.data_append, ByteArray.data_append, Array.toList_append, Array.toList_append, mk_list, List.append_assoc, List.drop_left, show (ul 10 s.size).length + s.size - (ul 10 s.size).length = s.size by omega, ← sz_list s, List.take_left]
  generalize ByteArray.mk (ul 10 s.size).toArray ++ s ++ t = T at *
  have G2 := implTakeU T 32 (by omega) (by omega) (by omega)
  rw [hu] at G2
  simp only at G2
  have Y := implTName T _ ⟨_, _, _, rfl⟩ (takeText_yes T (by omega) 100 (by omega) s.size (ul 10 s.size).length (by omega) (by omega) (by omega) (by omega) G2) w
  rw [he] at Y
  rw [show (((ul 10 s.size).length + s.size : Nat) : Int) = ((ul 10 s.size).length : Int) + (s.size : Int) by omega]
  exact Y

end Go.Proofs.Ytnimlkobcginjaa
