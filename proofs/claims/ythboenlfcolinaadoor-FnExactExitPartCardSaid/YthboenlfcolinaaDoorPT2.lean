/-
  What a good name is, and a good part: both sides.
-/
import Derived.Test.YthboenlfcolinaaDoorPT1
import Derived.Test.YthboenlfcolinaaDoorEnc
import Derived.Test.YthboenlfcolinaaDoorSize
import Derived.PlainAid
import Derived.Test.YthboenlfcolinaaDoorIn
import Derived.Shelf.Strings.SlTrimAscii
namespace Go.Proofs.YthboenlfcolinaaDoor
open Go.ChangeShapes Go.WideShapes Go.ChangeAt Go.RowKit Go.Deep Go.PlainAid

def nmB (x : Int) : Prop := (97 ≤ x ∧ x ≤ 122) ∨ (48 ≤ x ∧ x ≤ 57) ∨ x = 45
theorem nmC_iff (b : UInt8) : nmC b = true ↔ nmB (b.toNat : Int) := by
  unfold nmC nmB
  simp only [Bool.or_eq_true, Bool.and_eq_true, decide_eq_true_eq]
  omega
theorem bt_get (s : ByteArray) (k : Nat) (h : k < s.size) : ∃ b, s.data.toList[k]? = some b ∧ bt s k = (b.toNat : Int) := by
  have h' : k < s.data.size := h
  refine ⟨s.data[k], by rw [Array.getElem?_toList, Array.getElem?_eq_getElem h'], ?_⟩
  unfold bt
  rw [dif_pos h]
  rfl
theorem nmAll_iff (s : ByteArray) : nmAll s = true ↔ ∀ k, k < s.size → nmB (bt s k) := by
  unfold nmAll
  rw [List.all_eq_true]
  constructor
  · intro h k hk
    obtain ⟨b, h1, h2⟩ := bt_get s k hk
    rw [h2]
    exact (nmC_iff b).1 (h b (List.mem_iff_getElem?.2 ⟨k, h1⟩))
  · intro h b hb
    obtain ⟨k, hk⟩ := List.mem_iff_getElem?.1 hb
    have hl : k < s.size := by
      rcases Nat.lt_or_ge k s.size with h' | h'
      · exact h'
      · rw [List.getElem?_eq_none (by simpa using h')] at hk; cases hk
    obtain ⟨b', h1, h2⟩ := bt_get s k hl
    rw [hk] at h1
    cases h1
    rw [nmC_iff, ← h2]
    exact h k hl
theorem nm_ext {s : ByteArray} {k : Nat} (h : ∀ j, j < k → nmB (bt s j)) (h1 : nmB (bt s k)) : ∀ j, j < k + 1 → nmB (bt s j) := fun j hj => by
  rcases Nat.lt_or_ge j k with h' | h'
  · exact h j h'
  · have : j = k := by omega
    subst this
    exact h1
theorem nmOk_no {s : ByteArray} {k : Nat} (hk : k < s.size) (h : ¬ nmB (bt s k)) : nmOk s = false := by
  unfold nmOk
  have : nmAll s = false := by
    cases e : nmAll s with
    | false => rfl
    | true => exact absurd ((nmAll_iff s).1 e k hk) h
  rw [this, Bool.and_false]
theorem nmOk_yes {s : ByteArray} (h : ∀ k, k < s.size → nmB (bt s k)) : nmOk s = (decide (1 ≤ s.size) && decide (s.size ≤ 20)) := by
  unfold nmOk
  rw [(nmAll_iff s).2 h, Bool.and_true]

set_option maxRecDepth 100000 in
set_option maxHeartbeats 1600000 in
theorem specName (s : ByteArray) (hs : s.size ≤ 1048576) (w : World) :
    Calls Tryd.prog 16 #[.string s] w fun e w' => e = .returned (.bool (nmOk s)) ∧ Below w.heap.size w w' := by
  obtain ⟨n, hn⟩ : ∃ n : Int, (s.size : Int) = n := ⟨_, rfl⟩
  go_enter Tryd.func16, Tryd.ntmps16
  go_wp2
  go_loopw [3] (fun i wr => ∃ k : Nat, (k : Int) ≤ n ∧ i = .int .i64 k ∧ Hid (∀ j, j < k → nmB (bt s j)) ∧ Below w.heap.size w wr) (fun i _ => s.size - (intOf i).toNat)
  case atStart => exact ⟨0, by omega, rfl, fun j hj => by omega, Below.refl _ _⟩
  case round =>
    obtain ⟨k, hk, rfl, hg, hnx⟩ := hrel
    have HX : Hid (Below w.heap.size w wr) := hnx
    clear hnx
    by_cases hlt : (k : Int) < n
    · have hks : k < s.size := by omega
      have e := get_bt s k hks
      have hb0 := bt_nonneg s k
      have hb1 := bt_le s k
      have HNO : Hid (¬ nmB (bt s k) → nmOk s = false) := nmOk_no hks
      have HBT : Hid (bt s k = bt s k) := rfl
      obtain ⟨b, hb⟩ : ∃ b, bt s k = b := ⟨_, rfl⟩
      rw [hb] at e hb0 hb1 HNO
      have HB : Hid (bt s k = b) := hb
      clear hb HBT
      have hw : wrap64 ((k : Int) + 1) = (k : Int) + 1 := by unfold wrap64; omega
      by_cases hm : nmB b
      · have HM : Hid (nmB b) := hm
        have hc : (97 ≤ b ∧ b ≤ 122) ∨ (¬ 97 ≤ b ∧ 48 ≤ b ∧ b ≤ 57) ∨ (¬ 97 ≤ b ∧ ¬ 48 ≤ b ∧ b = 45) := by unfold nmB at hm; omega
        have HG1 : Hid (∀ j, j < k + 1 → nmB (bt s j)) := nm_ext hg.out (by rw [HB.out]; exact hm)
        clear hm hb0 hb1
        rcases hc with ⟨h1, h2⟩ | ⟨h1, h2, h3⟩ | ⟨h1, h2, h3⟩
        all_goals try subst h3
        all_goals go_wp2
        all_goals go_roundw
        all_goals first
          | (case rel => exact ⟨k + 1, by omega, by go_num, HG1, HX.out⟩)
          | skip
        all_goals (simp [intOf]; omega)
      · have h45 : (b == 45) = false := by unfold nmB at hm; simp; omega
        have h46 : (!(b == 45)) = true := by rw [h45]; rfl
        have HNO2 : Hid (nmOk s = false) := HNO.out hm
        have hc : (97 ≤ b ∧ ¬ b ≤ 122 ∧ 48 ≤ b ∧ ¬ b ≤ 57 ∧ ¬ b = 45) ∨ (¬ 97 ≤ b ∧ 48 ≤ b ∧ ¬ b ≤ 57 ∧ ¬ b = 45) ∨ (¬ 97 ≤ b ∧ ¬ 48 ≤ b ∧ ¬ b = 45) := by unfold nmB at hm; omega
        clear hm hb0 hb1
        rcases hc with ⟨h1, h2, h3, h4, h5⟩ | ⟨h1, h2, h3, h4⟩ | ⟨h1, h2, h3⟩
        all_goals go_wp2
        all_goals go_ret
        all_goals exact ⟨by rw [HNO2.out]; rfl, HX.out⟩
    · have hkn : k = s.size := by omega
      have HA : Hid (nmOk s = (decide (1 ≤ s.size) && decide (s.size ≤ 20))) := nmOk_yes (fun j hj => hg.out j (by omega))
      have IN := in_eq n 1 20 (nmOk s) (by unfold Hid; rw [HA.out, ← hn]; congr 1 <;> (rw [decide_eq_decide]; omega))
      clear hkn hk
      go_wp2_with (go_at_call 26; refine (IN _).mono ?_; rintro e w1 ⟨rfl, rfl⟩; clear IN)
      go_ret
      exact ⟨rfl, HX.out⟩

end Go.Proofs.YthboenlfcolinaaDoor
