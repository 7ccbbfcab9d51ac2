/-
  Types read from texts: the kind of a name; words as numbers.
-/
import Derived.Test.YtebendaiokchdaaDoorRD1
import Derived.Test.YtebendaiokchdaaDoorRD3
import Derived.Test.YtebendaiokchdaaDoorYTab
import Derived.Deep.MidRow
namespace Go.Proofs.YtebendaiokchdaaDoor
open Go.ChangeShapes Go.WideShapes Go.ChangeAt Go.RowKit Go.PlainAid Go.Shelf

/-- A row of the table, as cells. -/
def kcell (r : List UInt8 × Int × Int × Int × Int × Int × Int) : List Value := [.string ⟨r.1.toArray⟩, .int .i64 r.2.1, .int .i64 r.2.2.1, .int .i64 r.2.2.2.1, .int .i64 r.2.2.2.2.1, .int .i64 r.2.2.2.2.2.1, .int .i64 r.2.2.2.2.2.2]
def kcells : List Value := krow.flatMap kcell
theorem kcells_at : ∀ (R : List (List UInt8 × Int × Int × Int × Int × Int × Int)) (j : Nat) (v : Value), (R.flatMap kcell)[j]? = some v → ∃ (h : j / 7 < R.length), (kcell R[j / 7])[j % 7]? = some v
  | [], j, v, h => by simp at h
  | r :: R, j, v, h => by
    rw [List.flatMap_cons] at h
    rcases Nat.lt_or_ge j 7 with hj | hj
    · rw [List.getElem?_append_left (by simpa [kcell] using hj)] at h
      have e1 : j / 7 = 0 := by omega
      have e2 : j % 7 = j := by omega
      refine ⟨by rw [e1]; simp, ?_⟩
      simp only [e1, e2, List.getElem_cons_zero]
      exact h
    · rw [List.getElem?_append_right (by simpa [kcell] using hj)] at h
      have e0 : (kcell r).length = 7 := rfl
      rw [e0] at h
      obtain ⟨h1, h2⟩ := kcells_at R (j - 7) v h
      have e1 : j / 7 = (j - 7) / 7 + 1 := by omega
      have e2 : j % 7 = (j - 7) % 7 := by omega
      refine ⟨by rw [e1]; simpa using h1, ?_⟩
      simp only [e1, List.getElem_cons_succ, e2]
      exact h2
theorem tabs_range {w : World} (h : Tabs w) : w.rangeAt 0 0 kcells := fun j v hj => by
  obtain ⟨h1, h2⟩ := kcells_at krow j v hj
  obtain ⟨c0, c1, c2, c3, c4, c5, c6⟩ := h.2 (j / 7) h1
  have hm : j % 7 = 0 ∨ j % 7 = 1 ∨ j % 7 = 2 ∨ j % 7 = 3 ∨ j % 7 = 4 ∨ j % 7 = 5 ∨ j % 7 = 6 := by omega
  have e : ∀ m, j % 7 = m → 0 + j = j / 7 * 7 + m := fun m hm => by omega
  rcases hm with hm | hm | hm | hm | hm | hm | hm <;> rw [hm] at h2 <;> rw [e _ hm] <;> simp only [kcell, List.getElem?_cons_zero, List.getElem?_cons_succ, Option.some.injEq] at h2 <;> rw [← h2]
  · exact c0
  · exact c1
  · exact c2
  · exact c3
  · exact c4
  · exact c5
  · exact c6
theorem kpartL : ∀ (R : List (List UInt8 × Int × Int × Int × Int × Int × Int)) (k : Nat) (h : k < R.length), ((R.flatMap kcell).drop (k * 7)).take 7 = kcell R[k]
  | r :: R, 0, _ => by
    rw [List.flatMap_cons]
    simp [kcell]
  | r :: R, k + 1, h => by
    rw [List.flatMap_cons, show (k + 1) * 7 = (kcell r).length + k * 7 by simp [kcell]; omega, List.drop_append]
    simp only [Nat.add_sub_cancel_left, List.getElem_cons_succ]
    rw [show (kcell r).drop ((kcell r).length + k * 7) = [] by simp, List.nil_append]
    exact kpartL R k (by simpa using h)
theorem kpart (k : Nat) (h : k < krow.length) : kcells.toArray.extract (k * 7) (k * 7 + 7) = (kcell krow[k]).toArray := by
  rw [List.extract_toArray, ← kpartL krow k h]
  simp [List.extract_eq_take_drop, kcells]
theorem kidx (k : Nat) (h : k < krow.length) (w : World) : (Instr.index 58 (.agg kcells.toArray) (.int .i64 (k : Int))).run Tryd.prog w = .ok (.agg (kcell krow[k]).toArray) w := by
  have hk : k < 22 := h
  have hk2 : 0 ≤ (k : Int) ∧ (k : Int) < 22 := by omega
  have hp := kpart k h
  generalize kcells.toArray = K at hp ⊢
  generalize (kcell krow[k]).toArray = R at hp ⊢
  simp [Instr.index, run_underlying Tryd.underlying58, asIntOf, hk2, go_sem, hp]
  intro h1
  omega
theorem kn_hit {w : List UInt8} {k : Nat} (h : k < krow.length) (h1 : krow[k].1 = w) (h2 : ∀ j (hj : j < krow.length), j < k → krow[j].1 ≠ w) : kn w = (k : Int) := by
  unfold kn
  have e : (krow.findIdx fun r => r.1 == w) = k := by
    rw [List.findIdx_eq h]
    exact ⟨by simpa using h1, fun j hj => by simpa using h2 j (by omega) hj⟩
  have hk : k < 22 := h
  rw [e]
  omega
theorem kn_miss {w : List UInt8} (h2 : ∀ j (hj : j < krow.length), krow[j].1 ≠ w) : kn w = 0 := by
  unfold kn
  have e : (krow.findIdx fun r => r.1 == w) = krow.length := by
    rw [List.findIdx_eq_length]
    intro x hx
    obtain ⟨j, hj, rfl⟩ := List.mem_iff_getElem.1 hx
    simpa using h2 j hj
  have hk : krow.length = 22 := rfl
  rw [e, hk]
  rfl

set_option maxRecDepth 100000 in
set_option maxHeartbeats 1600000 in
theorem implKindNamed (s : ByteArray) (w : World) (hT : Tabs w) :
    Calls Tryd.prog 49 #[.string s] w fun e w' => e = .returned (.int .i64 (kn s.data.toList)) ∧ Below w.heap.size w w' := by
  have HI : Hid (∀ (k : Nat) (h : k < krow.length) (w : World), (Instr.index 58 (.agg kcells.toArray) (.int .i64 (k : Int))).run Tryd.prog w = .ok (.agg (kcell krow[k]).toArray) w) := kidx
  have HT : Hid (Tabs w) := hT
  clear hT
  go_enter Tryd.func49, Tryd.ntmps49
  go_wp2
  refine wp_load_mid 58 _ rfl 0 0 rfl kcells _ (tabs_range HT.out) Tryd.underlying58 rfl (by kernel_rfl) ?_
  obtain ⟨K, hK⟩ : ∃ K, kcells.toArray = K := ⟨_, rfl⟩
  rw [hK] at HI ⊢
  clear hK
  go_wp2
  go_loopw [6] (fun i wr => ∃ k : Nat, k ≤ 22 ∧ i = .int .i64 (k : Int) ∧ Hid (Below w.heap.size w wr) ∧ Hid (∀ j (hj : j < krow.length), j < k → krow[j].1 ≠ s.data.toList)) (fun i _ => 22 - (intOf i).toNat)
  case atStart => exact ⟨0, by omega, rfl, Below.refl _ _, fun j _ h => by omega⟩
  case round =>
    obtain ⟨k, hk, rfl, HB, HN⟩ := hrel
    rcases Nat.lt_or_ge k 22 with hl | hl
    · have hix := HI.out k hl
      obtain ⟨⟨nmk, c1, c2, c3, c4, c5, c6⟩, hrw⟩ : ∃ x, krow[k]'hl = x := ⟨_, rfl⟩
      rw [hrw] at hix
      simp only [kcell] at hix
      clear HI
      have hd : decide ((k : Int) < 22) = true := decide_eq_true (by omega)
      have hw : wrap64 ((k : Int) + 1) = (k : Int) + 1 := by unfold wrap64; omega
      have HRW : Hid (krow[k]'hl = (nmk, c1, c2, c3, c4, c5, c6)) := hrw
      clear hrw
      have HB2 : Hid (∀ o, Below w.heap.size w (wr.alloc o)) := fun o => HB.out.alloc HB.out.size _
      cases hbe : (nmk == s.toList)
      · have HNE : Hid (nmk ≠ s.data.toList) := fun e => by
          rw [e, ByteArray.toList_eq] at hbe
          simp at hbe
        have HN1 : Hid (∀ j (hj : j < krow.length), j < k + 1 → krow[j].1 ≠ s.data.toList) := fun j hj h1 => by
          rcases Nat.lt_or_ge j k with h2 | h2
          · exact HN.out j hj h2
          · have h3 : j = k := by omega
            have h4 : krow[j]'hj = krow[k]'hl := by subst h3; rfl
            rw [h4, HRW.out]
            exact HNE.out
        go_wp2
        go_roundw
        case rel => exact ⟨k + 1, by omega, by go_num, HB2.out _, HN1⟩
        case measure => simp [intOf]; omega
      · have HEQ : Hid (kn s.data.toList = (k : Int)) := by
          have he : nmk = s.data.toList := by rw [← ByteArray.toList_eq]; simpa using hbe
          exact kn_hit (k := k) hl (by rw [HRW.out]; exact he) (fun j hj h1 => HN.out j hj h1)
        go_wp2
        go_ret
        exact ⟨by rw [HEQ.out]; rfl, HB2.out _⟩
    · have HKN : Hid (kn s.data.toList = 0) := kn_miss (fun j hj => HN.out j hj (by have h2 : j < 22 := hj; omega))
      have hd : decide ((k : Int) < 22) = false := decide_eq_false (by omega)
      have hd2 : ¬ (k : Int) < 22 := by omega
      clear HI
      go_wp2
      go_ret
      exact ⟨by rw [HKN.out]; rfl, HB.out⟩

end Go.Proofs.YtebendaiokchdaaDoor
