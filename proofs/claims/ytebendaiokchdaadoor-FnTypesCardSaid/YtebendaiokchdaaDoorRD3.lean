/-
  The library's search for one of three signs: what it tells of any text.
-/
import Derived.Test.YtebendaiokchdaaDoorRD2
import Derived.Shelf.Strings.IndexAnyAll
import Derived.Lib.OthersKept
namespace Go.Proofs.YtebendaiokchdaaDoor
open Go.ChangeShapes Go.WideShapes Go.ChangeAt Go.RowKit Go.PlainAid Go.Shelf Go.Lib

theorem at_get (s : ByteArray) (k : Nat) (h : k < s.size) : (s.get! k) = s[k]'h := by
  simp [ByteArray.get!, getElem!_pos, h]
  rfl
/-- Of a text read rune by rune: what one step passes over. -/
theorem dec_span (s : ByteArray) (pos : Nat) (h : pos < s.size) (ha : 128 ≤ (s[pos]'h).toNat) :
    pos + (Utf8.decode s pos).2 ≤ s.size ∧ ∀ j (hj : j < s.size), pos ≤ j → j < pos + (Utf8.decode s pos).2 → 128 ≤ (s[j]'hj).toNat := by
  have hn : ¬ (s[pos]'h).toNat < 128 := by omega
  have cont : ∀ k, (decide (pos + k < s.size) && ((s.get! (pos + k)).toNat / 64 == 2)) = true → pos + k < s.size ∧ ∀ hk : pos + k < s.size, 128 ≤ (s[pos + k]'hk).toNat := by
    intro k hk
    simp only [Bool.and_eq_true, decide_eq_true_eq, beq_iff_eq] at hk
    refine ⟨hk.1, fun h1 => ?_⟩
    have h2 := hk.2
    rw [at_get s _ h1] at h2
    omega
  have one : pos + 1 ≤ s.size ∧ ∀ j (hj : j < s.size), pos ≤ j → j < pos + 1 → 128 ≤ (s[j]'hj).toNat := ⟨by omega, fun j hj h1 h2 => by
    obtain rfl : j = pos := by omega
    exact ha⟩
  have many : ∀ n, 1 ≤ n → (∀ k, 1 ≤ k → k < n → (decide (pos + k < s.size) && ((s.get! (pos + k)).toNat / 64 == 2)) = true) → pos + n ≤ s.size ∧ ∀ j (hj : j < s.size), pos ≤ j → j < pos + n → 128 ≤ (s[j]'hj).toNat := by
    intro n hn1 hc
    refine ⟨?_, fun j hj h1 h2 => ?_⟩
    · rcases Nat.lt_or_ge 1 n with h1 | h1
      · have := (cont (n - 1) (hc (n - 1) (by omega) (by omega))).1
        omega
      · omega
    · rcases Nat.lt_or_ge pos j with h3 | h3
      · have h4 := (cont (j - pos) (hc (j - pos) (by omega) (by omega))).2
        have e : pos + (j - pos) = j := by omega
        have h5 := h4 (by omega)
        simpa [e] using h5
      · obtain rfl : j = pos := by omega
        exact ha
  have e0 : (s.get! (pos + 0)) = s[pos]'h := by rw [Nat.add_zero]; exact at_get s pos h
  simp only [Utf8.decode, e0, hn, if_false]
  split
  · rename_i h1
    simp only [Bool.and_eq_true] at h1
    split
    · exact many 2 (by omega) (fun k hk1 hk2 => by
        have : k = 1 := by omega
        subst this
        simpa using h1.2)
    · exact one
  · split
    · rename_i h1
      simp only [Bool.and_eq_true] at h1
      split
      · exact many 3 (by omega) (fun k hk1 hk2 => by
          have : k = 1 ∨ k = 2 := by omega
          rcases this with rfl | rfl
          · simpa using h1.1.2
          · simpa using h1.2)
      · exact one
    · split
      · rename_i h1
        simp only [Bool.and_eq_true] at h1
        split
        · exact many 4 (by omega) (fun k hk1 hk2 => by
            have : k = 1 ∨ k = 2 ∨ k = 3 := by omega
            rcases this with rfl | rfl | rfl
            · simpa using h1.1.1.2
            · simpa using h1.1.2
            · simpa using h1.2)
        · exact one
      · exact one
theorem noany_run (s : ByteArray) (cs : List UInt8) (hcs : ∀ x : UInt8, 128 ≤ x.toNat → cs.contains x = false) : ∀ (n i : Nat), Lib.NoAny s.data.toList cs i → i + n ≤ s.size → (∀ j (hj : j < s.size), i ≤ j → j < i + n → 128 ≤ (s[j]'hj).toNat) → Lib.NoAny s.data.toList cs (i + n)
  | 0, i, h, _, _ => h
  | n + 1, i, h, hl, hb => by
    have hi : i < s.size := by omega
    have h1 := h.succ (Lib.data_getElem? s i hi) (hcs _ (hb i hi (Nat.le_refl _) (by omega)))
    have h2 := noany_run s cs hcs n (i + 1) h1 (by omega) (fun j hj a b => hb j hj (by omega) (by omega))
    rw [show i + 1 + n = i + (n + 1) by omega] at h2
    exact h2
theorem sg3_high (x : UInt8) (h : 128 ≤ x.toNat) : sg3.data.toList.contains x = false := by
  have hn : ∀ y ∈ sg3.data.toList, y.toNat < 128 := by decide
  cases hc : sg3.data.toList.contains x with
  | false => rfl
  | true =>
    have := hn x (by simpa using hc)
    omega

set_option maxRecDepth 100000 in
set_option maxHeartbeats 1600000 in
theorem anyShort (s : ByteArray) (h8 : s.size ≤ 8) (w : World) :
    Calls Tryd.prog 31 #[.string s, .string sg3] w fun e w' => e = .returned (.int .i64 (Lib.indexAny s.data.toList sg3.data.toList)) ∧ Below w.heap.size w w' := by
  obtain ⟨cs, hcs⟩ : ∃ cs, sg3 = cs := ⟨_, rfl⟩
  have hz : cs.size = 3 := by rw [← hcs]; rfl
  have SH := Tryd.strings_shouldUseASCIISet
  have RA := fun r w => Tryd.strings_IndexRune_ascii cs r w
  have RN : ∀ (r : Int), 128 ≤ r → r ≤ 2147483647 → ∀ w, Calls Tryd.prog 44 #[.string cs, .int .i32 r] w fun e w' => e = .returned (.int .i64 (-1)) ∧ Below w.heap.size w w' := by rw [← hcs]; exact runeNone
  have HHI : Hid (∀ x : UInt8, 128 ≤ x.toNat → cs.data.toList.contains x = false) := by rw [← hcs]; exact sg3_high
  rw [hcs]
  clear hcs
  have hemp : cs.toList.isEmpty = false := by
    rw [Lib.toList_data]
    cases h : cs.data.toList with
    | nil => have := Lib.size_eq cs; rw [h, List.length_nil] at this; omega
    | cons _ _ => rfl
  have h8z : decide ((8 : Int) < (s.size : Int)) = false := decide_eq_false (by omega)
  go_enter Tryd.func31, Tryd.ntmps31
  go_wp2_with (go_at_call 45; refine (SH _ _).mono ?_; rintro e w1 ⟨rfl, rfl⟩; clear SH; rw [h8z])
  go_loopg [9, 10] s.size (fun g _ _ wx => ∃ i : Nat, i + g = s.size ∧ Hid (wx.heap[w1.heap.size]? = some (.stringIter s i)) ∧ Hid (Below w1.heap.size w1 wx) ∧ Hid (Lib.NoAny s.data.toList cs.data.toList i))
  case atStart => exact ⟨0, by omega, World.iter_heap _ _ _, below_iter _ _ _, Lib.NoAny.zero _ _⟩
  case round =>
    obtain ⟨i, hig, HI, HB, HN⟩ := hrel
    rcases Nat.lt_or_ge i s.size with hi | hi
    · obtain ⟨x, hx⟩ : ∃ x : UInt8, s[i]'hi = x := ⟨_, rfl⟩
      have HX : Hid (s.data.toList[i]? = some x) := by unfold Hid; rw [← hx]; exact Lib.data_getElem? s i hi
      by_cases h128 : x.toNat < 128
      · have hnx := fun ty => run_next_ascii_at (P := Tryd.prog) wr w1.heap.size s i ty HI.out hi (by rw [hx]; exact h128)
        rw [hx] at hnx
        have hcon := Lib.contains_iff_indexByte cs.data.toList x
        have hback : ((x.toNat : Int)).toNat.toUInt8 = x := by simp
        have HK : Hid (∀ p, (wr.iterAt w1.heap.size s p).heap[w1.heap.size]? = some (.stringIter s p)) := fun p => Lib.iterAt_heap _ _ _ _ _ HI.out
        have HBB : Hid (∀ p, Below w1.heap.size w1 (wr.iterAt w1.heap.size s p)) := fun p => Lib.below_iterAt HB.out (Nat.le_refl _) _ _
        clear hx
        cases hin : cs.data.toList.contains x
        · rw [hin] at hcon
          have hlt : decide ((0 : Int) ≤ Lib.indexByte cs.data.toList x) = false := hcon.symm
          clear hcon
          go_wp2_with (go_at_call 44; refine (RA _ _ (by omega) (by omega)).mono ?_; rintro e w' ⟨rfl, hw⟩; rw [hw, hback])
          go_roundg (s.size - (i + 1))
          case measure => omega
          case rel => exact ⟨i + 1, by omega, HK.out _, HBB.out _, HN.out.succ HX.out hin⟩
        · rw [hin] at hcon
          have hge : decide ((0 : Int) ≤ Lib.indexByte cs.data.toList x) = true := hcon.symm
          clear hcon
          go_wp2_with (go_at_call 44; refine (RA _ _ (by omega) (by omega)).mono ?_; rintro e w' ⟨rfl, hw⟩; rw [hw, hback])
          go_ret
          exact ⟨by rw [Lib.indexAny_hit HN.out HX.out hin]; rfl, HBB.out _⟩
      · have h128' : 128 ≤ (s[i]'hi).toNat := by rw [hx]; omega
        have hnx := fun ty => run_next_any_at (P := Tryd.prog) wr w1.heap.size s i ty HI.out hi
        obtain ⟨d0, d1⟩ := decode_high s i hi h128'
        have d2 := decode_le s i
        obtain ⟨d3, d4⟩ := dec_span s i hi h128'
        obtain ⟨c, hc⟩ : ∃ c : Nat, (Utf8.decode s i).1 = c := ⟨_, rfl⟩
        obtain ⟨n, hn⟩ : ∃ n : Nat, (Utf8.decode s i).2 = n := ⟨_, rfl⟩
        rw [hc] at d0 d2
        rw [hn] at d1 d3 d4
        rw [hc, hn] at hnx
        have HNN : Hid (Lib.NoAny s.data.toList cs.data.toList (i + n)) := noany_run s _ HHI.out n i HN.out d3 d4
        have HK : Hid ((wr.iterAt w1.heap.size s (i + n)).heap[w1.heap.size]? = some (.stringIter s (i + n))) := Lib.iterAt_heap _ _ _ _ _ HI.out
        have HBB : Hid (Below w1.heap.size w1 (wr.iterAt w1.heap.size s (i + n))) := Lib.below_iterAt HB.out (Nat.le_refl _) _ _
        have hkl : Hid (w1.heap.size < (wr.iterAt w1.heap.size s (i + n)).heap.size) := lt_of_block HK.out
        have RC := RN (c : Int) (by omega) (by omega)
        clear hx d4 hc hn
        go_wp2_with (go_at_call 44; refine (RC _).mono ?_; rintro e w' ⟨rfl, hb2⟩; clear RC)
        have h5 := (hb2.block w1.heap.size hkl.out).trans HK.out
        have h6 := HBB.out.trans (hb2.mono HBB.out.size)
        go_roundg (s.size - (i + n))
        case measure => omega
        case rel => exact ⟨i + n, by omega, h5, h6, HNN.out⟩
    · have hi2 : i = s.size := by omega
      have HN2 : Hid (Lib.NoAny s.data.toList cs.data.toList s.data.toList.length) := by unfold Hid; rw [← Lib.size_eq, ← hi2]; exact HN.out
      have hnx := fun ty => run_next_end_at (P := Tryd.prog) wr w1.heap.size s i ty HI.out (by omega)
      go_wp2
      go_ret
      exact ⟨by rw [Lib.indexAny_none HN2.out]; rfl, HB.out⟩

theorem anyIdx (s : ByteArray) (hs : s.size ≤ 1048576) (w : World) :
    Calls Tryd.prog 31 #[.string s, .string sg3] w fun e w' => e = .returned (.int .i64 (Lib.indexAny s.data.toList sg3.data.toList)) ∧ Below w.heap.size w w' := by
  by_cases h8 : s.size ≤ 8
  · exact anyShort s h8 w
  · refine (Tryd.strings_IndexAny_long (zero_of_info (n := 256) (by kernel_rfl)).1 s sg3 w (by decide) (by omega) (by omega) (by decide) (fun j b hb => (show ∀ y ∈ sg3.data.toList, y.toNat < 128 by decide) b (List.mem_iff_getElem?.2 ⟨j, hb⟩))).mono fun e w' ⟨h1, h2⟩ => ⟨h1, ?_⟩
    rw [h2]
    exact ((Below.refl _ _).alloc (Nat.le_refl _) _).alloc (by simp) _

end Go.Proofs.YtebendaiokchdaaDoor
