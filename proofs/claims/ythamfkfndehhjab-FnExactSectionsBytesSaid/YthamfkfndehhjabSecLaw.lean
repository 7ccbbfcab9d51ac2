/-
  The walk of the law on the bytes of sections.
-/
import Derived.Test.YthamfkfndehhjabSecSpec
import Derived.Test.YthamfkfndehhjabSecEq
namespace Go.Proofs.Ythamfkfndehhjab
open Go.ChangeShapes Go.WideShapes Go.ChangeAt Go.RowKit

theorem secAt_below {w w' : World} {B b off : Nat} {L : List (Int × ByteArray)} (h : Below B w w') (hb : b < B) (hL : secAt w b off L) : secAt w' b off L :=
  fun i hi => ⟨(h.cell (p := ⟨b, off + i * 2, none⟩) hb).trans (hL i hi).1, (h.cell (p := ⟨b, off + i * 2 + 1, none⟩) hb).trans (hL i hi).2⟩
theorem secAt_nil {w w' : World} {b off : Nat} {L : List (Int × ByteArray)} (h : Below w.heap.size w w') (hb : L ≠ [] → b < w.heap.size) (hL : secAt w b off L) : secAt w' b off L := by
  by_cases e : L = []
  · subst e; intro i hi; simp at hi
  · exact secAt_below h (hb e) hL
theorem secRes_form (L : List (Int × ByteArray)) : ∃ x y, secRes L = .tuple #[.string x, .bool y] := by
  by_cases h : secGood L = true ∧ (secBytes L).length ≤ 4000
  · exact ⟨_, _, secRes_yes L h.1 h.2⟩
  · exact ⟨_, _, secRes_no L h⟩
theorem bulk_at (L : List (Int × ByteArray)) (k : Nat) (h : k < L.length) : L[k].2.size ≤ secBulk L := by
  have h1 := secBulk_snoc L k h
  have h2 : secBulk L = secBulk (L.take (k + 1)) + secBulk (L.drop (k + 1)) := by
    unfold secBulk; rw [← List.sum_append, ← List.map_append, List.take_append_drop]
  omega

set_option maxRecDepth 100000 in
set_option maxHeartbeats 1600000 in
theorem secs_law (a : Option Addr) (b off cap : Nat) (L : List (Int × ByteArray)) (w : World) (ha : Hid (L ≠ [] → a = some ⟨b, off, none⟩ ∧ b < w.heap.size)) (hL : Hid (secAt w b off L)) (hlen : Hid (L.length ≤ 9223372036854775807)) (hsz : Hid (∀ i (h : i < L.length), L[i].2.size ≤ 9223372036854775807)) :
    Calls Try.prog 3 #[.slice a L.length cap] w fun e w' => e = .returned (.bool true) ∧ Below w.heap.size w w' := by
  go_enter Try.func3, Try.ntmps3
  go_wp2_with fail
  refine (szSecs a b off cap L w ha hL hlen.out hsz.out).mono ?_
  rintro e w1 ⟨r, rfl, hr, hb1⟩
  by_cases hr0 : r < 0
  · clear hr
    go_wp2
    go_ret
    exact ⟨rfl, hb1⟩
  · have hbulk := hr (by omega)
    have hlen2 : L.length ≤ 1048576 := by omega
    have hsz2 : Hid (∀ i (h : i < L.length), L[i].2.size ≤ 1048576) := fun i h => by have := bulk_at L i h; omega
    clear hr hbulk
    have hbl : Hid (L ≠ [] → b < w.heap.size) := fun h => (ha.out h).2
    have HB1 : Hid (Below w.heap.size w w1) := hb1
    clear hb1
    go_wp2_with fail
    refine (toSecs a b off cap L w1 (fun h => ⟨(ha.out h).1, Nat.lt_of_lt_of_le (ha.out h).2 HB1.out.size⟩) (secAt_nil HB1.out hbl.out hL.out) hlen2).mono ?_
    rintro e w2 ⟨rfl, hs2, hL2, hb2⟩
    have HB2 : Hid (Below w.heap.size w w2) := below2 HB1.out hb2
    clear hb2
    go_wp2_with fail
    refine (specSecs (some ⟨w1.heap.size, 0, none⟩) w1.heap.size 0 L.length L w2 (fun _ => ⟨rfl, hs2⟩) hL2 hlen2 hsz2.out).mono ?_
    obtain ⟨x, y, hxy⟩ := secRes_form L
    rw [hxy]
    rintro e w3 ⟨rfl, hb3⟩
    have HB3 : Hid (Below w.heap.size w w3) := below2 HB2.out hb3
    clear hb3 hL2 hs2
    go_wp2_with fail
    refine (toSecs a b off cap L w3 (fun h => ⟨(ha.out h).1, Nat.lt_of_lt_of_le (ha.out h).2 HB3.out.size⟩) (secAt_nil HB3.out hbl.out hL.out) hlen2).mono ?_
    rintro e w4 ⟨rfl, hs4, hL4, hb4⟩
    have HB4 : Hid (Below w.heap.size w w4) := below2 HB3.out hb4
    clear hb4
    go_wp2_with fail
    refine (implSecs (some ⟨w3.heap.size, 0, none⟩) w3.heap.size 0 L.length L w4 (fun _ => ⟨rfl, hs4⟩) hL4 hlen2 hsz2.out).mono ?_
    rw [hxy]
    rintro e w5 ⟨rfl, hb5⟩
    have HB5 : Hid (Below w.heap.size w w5) := below2 HB4.out hb5
    have hL5 := secAt_below hb5 hs4 hL4
    have hs5 : w3.heap.size < w5.heap.size := Nat.lt_of_lt_of_le hs4 hb5.size
    clear hb5 hL4 hs4
    have hxy2 : Hid (secRes L = .tuple #[.string x, .bool y]) := hxy
    clear hxy
    cases y
    all_goals
      go_wp2_with fail
      refine (toSecs a b off cap L w5 (fun h => ⟨(ha.out h).1, Nat.lt_of_lt_of_le (ha.out h).2 HB5.out.size⟩) (secAt_nil HB5.out hbl.out hL.out) hlen2).mono ?_
      rintro e w6 ⟨rfl, hs6, hL6, hb6⟩
      have HB6 : Hid (Below w.heap.size w w6) := below2 HB5.out hb6
      have hL56 := secAt_below hb6 hs5 hL5
      have hs56 : w3.heap.size < w6.heap.size := Nat.lt_of_lt_of_le hs5 hb6.size
      clear hb6
      go_wp2_with fail
      refine (eqSecs (some ⟨w3.heap.size, 0, none⟩) (some ⟨w5.heap.size, 0, none⟩) w3.heap.size 0 L.length w5.heap.size 0 L.length L w6 (fun _ => ⟨rfl, hs56⟩) (fun _ => ⟨rfl, hs6⟩) hL56 hL6 (by omega)).mono ?_
      rintro e w7 ⟨rfl, hb7⟩
      have HB7 : Hid (Below w.heap.size w w7) := below2 HB6.out hb7
      clear hb7 hL56 hL6 hs6 hs56
      go_wp2
      go_ret
      exact ⟨rfl, HB7.out⟩

end Go.Proofs.Ythamfkfndehhjab
