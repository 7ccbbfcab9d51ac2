/-
  The law on reading code.
-/
import Derived.Test.YtkdcbgopbcicfaaCMark
namespace Go.Proofs.Ytkdcbgopbcicfaa
open Go.ChangeShapes Go.WideShapes Go.ChangeAt Go.RowKit Go.PlainAid

set_option maxRecDepth 100000 in
set_option maxHeartbeats 800000 in
theorem specReadCode (s : ByteArray) (hs : s.size ≤ 1048576) (w : World) :
    Calls Try.prog 16 #[.string s] w fun e w' => ∃ v, e = .returned (.tuple #[v, .bool (rc s).isSome]) ∧ w'.ownsRow w.heap.size 25 2 v ((rc s).getD []).length (pv ((rc s).getD [])) ∧ Below w.heap.size w w' := by
  have S := specRead s hs w
  clear hs
  go_enter Try.func16, Try.ntmps16
  go_wp2_with fail
  refine S.mono ?_
  rintro e w1 ⟨v, rfl, ho, hb⟩
  go_wp2
  go_ret2
  exact ⟨_, rfl, ho, hb⟩

/-- An owned row of sections, as the marks want it. -/
theorem owned_block {w : World} {B : Nat} {e : TypeId} {a : Option Addr} {n cap : Nat} {xs : List Value} (h : w.ownsRow B e 2 (.slice a n cap) n xs) : ∃ g arr, (0 < n → a = some ⟨g, 0, none⟩ ∧ w.heap[g]? = some (.cells arr e (0, 0)) ∧ n * 2 ≤ arr.size) ∧ (0 < n → B ≤ g) := by
  rcases h.2 with ⟨hv, h0⟩ | ⟨g, c, cur, hv, hg, hh, hnc, _, hcs, _⟩
  · exact ⟨0, #[], fun hn => absurd h0 (by omega), fun hn => absurd h0 (by omega)⟩
  · simp only [Value.slice.injEq] at hv
    exact ⟨g, cur, fun _ => ⟨hv.1, hh, by rw [hcs]; exact Nat.mul_le_mul_right 2 hnc⟩, fun _ => hg⟩
theorem insAt_keep {w w' : World} {B b off : Nat} {L : List (Int × Int)} (h : Below B w w') (hb : L ≠ [] → b < B) (hL : insAt w b off L) : insAt w' b off L := by
  by_cases e : L = []
  · subst e; intro i hi; simp at hi
  · exact fun i hi => ⟨(h.cell (p := ⟨b, off + i * 2, none⟩) (hb e)).trans (hL i hi).1, (h.cell (p := ⟨b, off + i * 2 + 1, none⟩) (hb e)).trans (hL i hi).2⟩

set_option maxRecDepth 100000 in
set_option maxHeartbeats 3200000 in
theorem readCode_law (s : ByteArray) (_hs : s.size ≤ 1048576) (w : World) :
    Calls Try.prog 5 #[.string s] w fun e w' => e = .returned (.bool true) ∧ Below w.heap.size w w' := by
  have hlen := rc_len s
  have S := specReadCode s _hs
  have I := implRead s _hs
  obtain ⟨ok, hok⟩ : ∃ ok, ok = (rc s).isSome := ⟨_, rfl⟩
  obtain ⟨L, hL⟩ : ∃ L, L = (rc s).getD [] := ⟨_, rfl⟩
  rw [← hok, ← hL] at S I
  rw [← hL] at hlen
  clear hok hL
  have S' := S; have I' := I
  have HS : Hid (∀ w : World, Calls Try.prog 16 #[.string s] w fun e w' => ∃ v, e = .returned (.tuple #[v, .bool ok]) ∧ w'.ownsRow w.heap.size 25 2 v L.length (pv L) ∧ Below w.heap.size w w') := S'
  have HI : Hid (∀ w : World, Calls Try.prog 17 #[.string s] w fun e w' => ∃ v, e = .returned (.tuple #[v, .bool ok]) ∧ w'.ownsRow w.heap.size 25 2 v L.length (pv L) ∧ Below w.heap.size w w') := I'
  clear S I S' I'
  have hs1 : ¬ (1048576 : Int) < s.size := by omega
  go_enter Try.func5, Try.ntmps5
  go_wp2_with fail
  refine (HS.out w).mono ?_
  rintro e w1 ⟨v0, rfl, ho0, hb1⟩
  obtain ⟨a0, c0, g0, rfl, ha0, hL0, _⟩ := owned_ins ho0
  have A0 : Hid (L ≠ [] → a0 = some ⟨g0, 0, none⟩ ∧ g0 < w1.heap.size) := ha0
  have M0 : Hid (insAt w1 g0 0 L) := hL0
  have B1 : Hid (Below w.heap.size w w1) := hb1
  clear ho0 ha0 hL0 hb1
  go_wp2_with fail
  refine (HI.out w1).mono ?_
  rintro e w2 ⟨v1, rfl, ho1, hb2⟩
  obtain ⟨a1, c1, g1, rfl, ha1, hL1, hg1⟩ := owned_ins ho1
  have A1 : Hid (L ≠ [] → a1 = some ⟨g1, 0, none⟩ ∧ g1 < w2.heap.size) := ha1
  have O1 : Hid (w2.ownsRow w1.heap.size 25 2 (.slice a1 L.length c1) L.length (pv L)) := ho1
  have M1 : Hid (insAt w2 g1 0 L) := hL1
  have B2 : Hid (Below w1.heap.size w1 w2) := hb2
  clear ho1 ha1 hL1 hb2 hg1
  go_wp2_with fail
  refine (eqInsS a1 a0 g1 0 c1 g0 0 c0 L w2 A1 (fun h => ⟨(A0.out h).1, Nat.lt_of_lt_of_le (A0.out h).2 B2.out.size⟩) M1.out (insAt_keep B2.out (fun h => (A0.out h).2) M0.out) (by omega)).mono ?_
  rintro e w3 ⟨rfl, hb3⟩
  have B3 : Hid (Below w2.heap.size w2 w3) := hb3
  clear hb3
  obtain ⟨g, arr, hga, hgB⟩ := owned_block (owns_below O1.out B3.out)
  have GA : Hid (0 < L.length → a1 = some ⟨g, 0, none⟩ ∧ w3.heap[g]? = some (.cells arr 25 (0, 0)) ∧ L.length * 2 ≤ arr.size) := hga
  have GB : Hid (0 < L.length → w1.heap.size ≤ g) := hgB
  clear hga hgB
  cases ok
  all_goals
    go_wp2_with fail
    refine (mark_any a1 g L.length c1 arr w3 hlen GA).mono ?_
    rintro e w4 ⟨rfl, hb4, hm4, hn4⟩
    have N4 : Hid (L.length = 0 → w4 = w3) := hn4
    clear hn4
    have B4 : Hid (Below g w3 w4) := hb4
    have M4 : Hid (0 < L.length → insAt w4 g 0 (marks L.length)) := hm4
    clear hb4 hm4
    have G4 : Hid (0 < L.length → g < w4.heap.size) := fun h => Nat.lt_of_lt_of_le (lt_of_block (GA.out h).2.1) B4.out.size
    go_wp2_with fail
    refine (held_any a1 g L.length c1 w4 hlen (fun h => ⟨(GA.out h).1, G4.out h, M4.out h⟩)).mono ?_
    rintro e w5 ⟨rfl, hb5⟩
    have B5 : Hid (Below w4.heap.size w4 w5) := hb5
    clear hb5
    have t1 : ¬ 1 + 2 * (L.length : Int) < 0 := by omega
    go_wp2_with fail
    refine (HI.out w5).mono ?_
    rintro e w6 ⟨v2, rfl, ho2, hb6⟩
    obtain ⟨a2, c2, g2, rfl, ha2, hL2, _⟩ := owned_ins ho2
    have A2 : Hid (L ≠ [] → a2 = some ⟨g2, 0, none⟩ ∧ g2 < w6.heap.size) := ha2
    have M2 : Hid (insAt w6 g2 0 L) := hL2
    have B6 : Hid (Below w5.heap.size w5 w6) := hb6
    clear ho2 ha2 hL2 hb6
    have hpos : Hid (L ≠ [] → 0 < L.length) := fun h => List.length_pos_iff.2 h
    have K6 : Hid (insAt w6 g0 0 L ∧ (L ≠ [] → g0 < w6.heap.size)) := by
      by_cases h : L = []
      · subst h; exact ⟨fun i hi => absurd hi (by simp), fun h => absurd rfl h⟩
      · have hp := hpos.out h
        have hg0 := (A0.out h).2
        have h2 := insAt_keep B2.out (fun _ => hg0) M0.out
        have hg2 : g0 < w2.heap.size := Nat.lt_of_lt_of_le hg0 B2.out.size
        have h3 := insAt_keep B3.out (fun _ => hg2) h2
        have h4 := insAt_keep B4.out (fun _ => Nat.lt_of_lt_of_le hg0 (GB.out hp)) h3
        have hg4 : g0 < w4.heap.size := Nat.lt_of_lt_of_le (Nat.lt_of_lt_of_le hg2 B3.out.size) B4.out.size
        have h5 := insAt_keep B5.out (fun _ => hg4) h4
        have hg5 : g0 < w5.heap.size := Nat.lt_of_lt_of_le hg4 B5.out.size
        exact ⟨insAt_keep B6.out (fun _ => hg5) h5, fun _ => Nat.lt_of_lt_of_le hg5 B6.out.size⟩
    go_wp2_with fail
    refine (eqInsS a2 a0 g2 0 c2 g0 0 c0 L w6 A2 (fun h => ⟨(A0.out h).1, K6.out.2 h⟩) M2.out K6.out.1 (by omega)).mono ?_
    rintro e w7 ⟨rfl, hb7⟩
    have B7 : Hid (Below w6.heap.size w6 w7) := hb7
    clear hb7
    have K7 : Hid (0 < L.length → a1 = some ⟨g, 0, none⟩ ∧ g < w7.heap.size ∧ insAt w7 g 0 (marks L.length)) := fun h => by
      have h4 := G4.out h
      have h5 : g < w5.heap.size := Nat.lt_of_lt_of_le h4 B5.out.size
      have h6 : g < w6.heap.size := Nat.lt_of_lt_of_le h5 B6.out.size
      exact ⟨(GA.out h).1, Nat.lt_of_lt_of_le h6 B7.out.size, insAt_keep B7.out (fun _ => h6) (insAt_keep B6.out (fun _ => h5) (insAt_keep B5.out (fun _ => h4) (M4.out h)))⟩
    go_wp2_with fail
    refine (held_any a1 g L.length c1 w7 hlen K7).mono ?_
    rintro e w8 ⟨rfl, hb8⟩
    have B8 : Hid (Below w7.heap.size w7 w8) := hb8
    clear hb8
    have BF : Hid (Below w.heap.size w w8) := by
      have s1 := B1.out.size
      have b3 : Below w.heap.size w w3 := (B1.out.trans (B2.out.mono s1)).trans (B3.out.mono (Nat.le_trans s1 B2.out.size))
      have b4 : Below w.heap.size w w4 := by
        by_cases h : 0 < L.length
        · exact b3.trans (B4.out.mono (Nat.le_trans s1 (GB.out h)))
        · rw [N4.out (by omega)]; exact b3
      exact below2 (below2 (below2 (below2 b4 B5.out) B6.out) B7.out) B8.out
    go_wp2
    go_ret
    exact ⟨rfl, BF.out⟩

set_option maxRecDepth 100000 in
set_option maxHeartbeats 800000 in
theorem readCode_walk (a0 : ByteArray) (_w0 : a0.size ≤ maxLen) (w : World) :
    Calls Try.prog 5 #[.string a0] w fun e w' => e = .returned (.bool true) ∧ Below w.heap.size w w' := by
  unfold maxLen at _w0
  by_cases hs : a0.size ≤ 1048576
  · exact readCode_law a0 hs w
  · have hs' : (1048576 : Int) < (a0.size : Int) := by omega
    go_enter Try.func5, Try.ntmps5
    go_wp2
    go_ret
    exact ⟨rfl, Below.refl _ _⟩

end Go.Proofs.Ytkdcbgopbcicfaa
