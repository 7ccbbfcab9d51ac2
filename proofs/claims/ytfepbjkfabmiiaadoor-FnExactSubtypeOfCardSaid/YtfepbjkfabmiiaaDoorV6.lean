/-
  Signatures that stand for others: both sides.
-/
import Derived.Test.YtfepbjkfabmiiaaDoorV5
namespace Go.Proofs.YtfepbjkfabmiiaaDoor
open Go.ChangeShapes Go.WideShapes Go.ChangeAt Go.RowKit Go.PlainAid

/-- Whether two rows of strings are the same. -/
def eqL (L M : List ByteArray) : Bool := decide (L.map ByteArray.toList = M.map ByteArray.toList)
theorem eqL_len {L M : List ByteArray} (h : L.length ≠ M.length) : eqL L M = false := by
  unfold eqL
  refine decide_eq_false (fun e => h ?_)
  have := congrArg List.length e
  simpa using this
theorem eqL_no {L M : List ByteArray} {k : Nat} (h1 : k < L.length) (h2 : k < M.length) (h : (L[k].toList == M[k].toList) = false) : eqL L M = false := by
  unfold eqL
  refine decide_eq_false (fun e => ?_)
  have h3 : (L.map ByteArray.toList)[k]? = (M.map ByteArray.toList)[k]? := by rw [e]
  rw [List.getElem?_map, List.getElem?_map, List.getElem?_eq_getElem h1, List.getElem?_eq_getElem h2] at h3
  have h4 : L[k].toList = M[k].toList := by simpa using h3
  rw [h4] at h
  simp at h
theorem eqL_yes {L M : List ByteArray} (hl : L.length = M.length) (h : ∀ j (h1 : j < L.length) (h2 : j < M.length), L[j].toList = M[j].toList) : eqL L M = true := by
  unfold eqL
  refine decide_eq_true (List.ext_getElem (by simpa using hl) (fun j h1 h2 => ?_))
  rw [List.getElem_map, List.getElem_map]
  exact h j (by simpa using h1) (by simpa using h2)

set_option maxRecDepth 100000 in
set_option maxHeartbeats 800000 in
theorem implEqual (a a' : Option Addr) (c c' : Nat) (L M : List ByteArray) (w : World) (hA : Hid (SA w a L)) (hA' : Hid (SA w a' M)) (hl : L.length ≤ 1048576) (_ : M.length ≤ 1048576) :
    Calls Tryd.prog 28 #[.slice a L.length c, .slice a' M.length c'] w fun e w' => e = .returned (.bool (eqL L M)) ∧ Below w.heap.size w w' := by
  obtain ⟨q, hq⟩ : ∃ q, eqL L M = q := ⟨_, rfl⟩
  have HQ : Hid (eqL L M = q) := hq
  rw [hq]
  clear hq
  by_cases hlen : L.length = M.length
  · have HLM : Hid (L.length = M.length) := hlen
    rw [← hlen]
    clear hlen
    go_enter Tryd.func28, Tryd.ntmps28
    go_wp2
    go_loopw [5, 13] (fun _ i wr => ∃ k : Nat, k ≤ L.length ∧ i = .int .i64 k ∧ Below w.heap.size w wr ∧ Hid (∀ j (h1 : j < L.length) (h2 : j < M.length), j < k → L[j].toList = M[j].toList)) (fun _ i _ => L.length - (intOf i).toNat)
    case atStart => exact ⟨0, by omega, rfl, Below.refl _ _, fun j _ _ h => by omega⟩
    case round =>
      obtain ⟨k, hk, rfl, hnx, HJ⟩ := hrel
      by_cases hlt : k < L.length
      · have hlt2 : k < M.length := by have := HLM.out; omega
        obtain ⟨b, off, rfl, hb, hc⟩ := hA.out.at hlt
        obtain ⟨b', off', rfl, hb', hc'⟩ := hA'.out.at hlt2
        have hc0 := (hnx.cell (p := ⟨b, off + k, none⟩) hb).trans hc
        have hd0 := (hnx.cell (p := ⟨b', off' + k, none⟩) hb').trans hc'
        have HK : Hid ((L[k].toList == M[k].toList) = false → q = false) := fun h => by rw [← HQ.out]; exact eqL_no hlt hlt2 h
        have HK2 : Hid ((L[k].toList == M[k].toList) = true → ∀ j (h1 : j < L.length) (h2 : j < M.length), j < k + 1 → L[j].toList = M[j].toList) := fun h j h1 h2 h3 => by
          by_cases e : j = k
          · subst e; exact eq_of_beq h
          · exact HJ.out j h1 h2 (by omega)
        obtain ⟨x, hx⟩ : ∃ x, x = L[k] := ⟨_, rfl⟩
        obtain ⟨y, hy⟩ : ∃ y, y = M[k] := ⟨_, rfl⟩
        rw [← hx] at hc0 HK HK2
        rw [← hy] at hd0 HK HK2
        clear hx hy hc hc' hlt2
        cases hxy : x.toList == y.toList with
        | true =>
          have HK3 := HK2.out hxy
          have HK4 : Hid (∀ j (h1 : j < L.length) (h2 : j < M.length), j < k + 1 → L[j].toList = M[j].toList) := HK3
          clear HK HK2 HK3 HJ
          go_wp2
          go_region
          all_goals
            go_wp2
            go_roundw
            case rel => exact ⟨k + 1, by omega, by go_num, by first | exact hnx | exact hnx.drew | (simp only [World.drew]; exact hnx), HK4.out⟩
            case measure => simp [intOf]; omega
        | false =>
          have hq := HK.out hxy
          subst hq
          clear HK HK2 HJ
          go_wp2
          go_region
          all_goals
            go_wp2
            go_ret
            exact ⟨rfl, by first | exact hnx | exact hnx.drew | (simp only [World.drew]; exact hnx)⟩
      · have hq : q = true := by rw [← HQ.out]; exact eqL_yes HLM.out (fun j h1 h2 => HJ.out j h1 h2 (by omega))
        subst hq
        go_wp2
        go_ret
        exact ⟨rfl, hnx⟩
  · have hq : q = false := by rw [← HQ.out]; exact eqL_len hlen
    subst hq
    have hli : ¬ (L.length : Int) = (M.length : Int) := by omega
    go_enter Tryd.func28, Tryd.ntmps28
    go_wp2
    go_ret
    exact ⟨rfl, Below.refl _ _⟩

/-- Whether both are signatures; whether the one may stand for the other. -/
def sbG (L : List ByteArray) (R : ByteArray) (M : List ByteArray) (S : ByteArray) : Bool := gsg L R && gsg M S
def sbS (L : List ByteArray) (R : ByteArray) (M : List ByteArray) (S : ByteArray) : Bool := sbG L R M S && (eqL L M && (R.toList == S.toList))

set_option maxRecDepth 100000 in
set_option maxHeartbeats 1600000 in
theorem implSub (a a' : Option Addr) (c c' : Nat) (L M : List ByteArray) (R S : ByteArray) (w : World) (hA : Hid (SA w a L)) (hA' : Hid (SA w a' M)) (hL : Hid (L.length ≤ 1048576 ∧ (∀ s ∈ L, s.size ≤ 1048576) ∧ R.size ≤ 1048576)) (hM : Hid (M.length ≤ 1048576 ∧ (∀ s ∈ M, s.size ≤ 1048576) ∧ S.size ≤ 1048576)) (hT : Hid (Tabs w)) (hE : Hid (Errs w)) (hP : Hid (Pows w)) :
    Calls Tryd.prog 17 #[sgV a L.length c R, sgV a' M.length c' S] w fun e w' => e = .returned (.tuple #[.bool (sbS L R M S), .bool (sbG L R M S)]) ∧ Below w.heap.size w w' := by
  obtain ⟨g, hgs⟩ : ∃ g, w.heap.size = g := ⟨_, rfl⟩
  obtain ⟨n, hn⟩ : ∃ n, L.length = n := ⟨_, rfl⟩
  obtain ⟨m, hm⟩ : ∃ n, M.length = n := ⟨_, rfl⟩
  obtain ⟨W, hW⟩ : ∃ W, (w.alloc (.cells #[.slice a n c, .string R] 33)).alloc (.cells #[.slice a' m c', .string S] 33) = W := ⟨_, rfl⟩
  have hb0 : Below w.heap.size w W := by rw [← hW]; exact ((Below.refl _ _).alloc (Nat.le_refl _) _).alloc (by simp) _
  have HW : Hid (W.heap[g]? = some (.cells #[.slice a n c, .string R] 33 (0, 0)) ∧ W.heap[g + 1]? = some (.cells #[.slice a' m c', .string S] 33 (0, 0)) ∧ W.heap.size = g + 1 + 1) := by
    unfold Hid; rw [← hW, ← hgs]
    exact ⟨s_old (heap_alloc_new _ _), s_blk (by simp), by simp⟩
  have HC : Hid (∀ U, Below W.heap.size W U → Calls Tryd.prog 14 #[.agg #[.slice a n c, .string R]] U fun e w' => e = .returned (.bool (gsg L R)) ∧ Below U.heap.size U w') := fun U hU => by
    have hb := below2 hb0 hU
    rw [← hn]
    exact implGSig a c L R U (hA.out.below hb) hL.out.1 hL.out.2.1 hL.out.2.2 (hT.out.below hb (Nat.le_refl _)) (hE.out.below hb hE.out.1.1 hE.out.2.1) (hP.out.below hb (Nat.le_refl _))
  have HD : Hid (∀ U, Below W.heap.size W U → Calls Tryd.prog 14 #[.agg #[.slice a' m c', .string S]] U fun e w' => e = .returned (.bool (gsg M S)) ∧ Below U.heap.size U w') := fun U hU => by
    have hb := below2 hb0 hU
    rw [← hm]
    exact implGSig a' c' M S U (hA'.out.below hb) hM.out.1 hM.out.2.1 hM.out.2.2 (hT.out.below hb (Nat.le_refl _)) (hE.out.below hb hE.out.1.1 hE.out.2.1) (hP.out.below hb (Nat.le_refl _))
  have HQ : Hid (∀ U, Below W.heap.size W U → Calls Tryd.prog 28 #[.slice a n c, .slice a' m c'] U fun e w' => e = .returned (.bool (eqL L M)) ∧ Below U.heap.size U w') := fun U hU => by
    have hb := below2 hb0 hU
    rw [← hn, ← hm]
    exact implEqual a a' c c' L M U (hA.out.below hb) (hA'.out.below hb) hL.out.1 hM.out.1
  have HBK : Hid (∀ U, Below W.heap.size W U → (U.cell? ⟨g, 0, none⟩ = some (.slice a n c) ∧ U.cell? ⟨g, 1, none⟩ = some (.string R)) ∧ U.cell? ⟨g + 1, 0, none⟩ = some (.slice a' m c') ∧ U.cell? ⟨g + 1, 1, none⟩ = some (.string S)) := fun U hU => by
    obtain ⟨p1, p2, p3⟩ := HW.out
    exact ⟨(two ((hU.block g (by omega)).trans p1)).1, (two ((hU.block (g + 1) (by omega)).trans p2)).1⟩
  have HWB : Hid (∀ U, Below W.heap.size W U → Below g w U) := fun U hU => by rw [← hgs]; exact below2 hb0 hU
  have HWC : Hid (∀ U, Below W.heap.size W U → Below w.heap.size w U) := fun U hU => below2 hb0 hU
  unfold sbS sbG
  rw [hn, hm]
  obtain ⟨GA, hGA⟩ : ∃ q, gsg L R = q := ⟨_, rfl⟩
  obtain ⟨GB, hGB⟩ : ∃ q, gsg M S = q := ⟨_, rfl⟩
  obtain ⟨Q, hQ⟩ : ∃ q, eqL L M = q := ⟨_, rfl⟩
  obtain ⟨E, hEE⟩ : ∃ q, (R.toList == S.toList) = q := ⟨_, rfl⟩
  rw [hGA] at HC ⊢
  rw [hGB] at HD ⊢
  rw [hQ] at HQ ⊢
  rw [hEE]
  have HEE : Hid ((R.toList == S.toList) = E) := hEE
  obtain ⟨⟨x0, x1⟩, y0, y1⟩ := HBK.out W (Below.refl _ _)
  clear hGA hGB hQ hEE hA hA' hL hM hT hE hP hn hm hb0 HW
  go_enter Tryd.func17, Tryd.ntmps17
  go_wp2_with fail
  refine (HC.out W (Below.refl _ _)).mono ?_
  rintro e w1 ⟨rfl, hb1⟩
  have HB1 : Hid (Below W.heap.size W w1) := hb1
  clear hb1 x0 x1 y0 y1 HC
  cases GA with
  | false =>
    go_wp2
    go_ret2
    exact ⟨rfl, by first | exact HWB.out _ HB1.out | exact HWC.out _ HB1.out⟩
  | true =>
    obtain ⟨⟨x0, x1⟩, y0, y1⟩ := HBK.out w1 HB1.out
    go_wp2_with fail
    refine (HD.out w1 HB1.out).mono ?_
    rintro e w2 ⟨rfl, hb2⟩
    have HB2 : Hid (Below W.heap.size W w2) := below2 HB1.out hb2
    clear hb2 x0 x1 y0 y1 HD HB1
    cases GB with
    | false =>
      go_wp2
      go_ret2
      exact ⟨rfl, by first | exact HWB.out _ HB2.out | exact HWC.out _ HB2.out⟩
    | true =>
      obtain ⟨⟨x0, x1⟩, y0, y1⟩ := HBK.out w2 HB2.out
      go_wp2_with fail
      refine (HQ.out w2 HB2.out).mono ?_
      rintro e w3 ⟨rfl, hb3⟩
      have HB3 : Hid (Below W.heap.size W w3) := below2 HB2.out hb3
      clear hb3 x0 x1 y0 y1 HQ HB2
      obtain ⟨⟨x0, x1⟩, y0, y1⟩ := HBK.out w3 HB3.out
      cases Q with
      | false =>
        go_wp2
        go_ret2
        exact ⟨rfl, by first | exact HWB.out _ HB3.out | exact HWC.out _ HB3.out⟩
      | true =>
        have hee := HEE.out
        cases E
        all_goals
          go_wp2
          go_ret2
          exact ⟨rfl, by first | exact HWB.out _ HB3.out | exact HWC.out _ HB3.out⟩

set_option maxRecDepth 100000 in
set_option maxHeartbeats 1600000 in
theorem specSub (a a' : Option Addr) (c c' : Nat) (L M : List ByteArray) (R S : ByteArray) (w : World) (hA : Hid (SA w a L)) (hA' : Hid (SA w a' M)) (hL : Hid (L.length ≤ 1048576 ∧ (∀ s ∈ L, s.size ≤ 1048576) ∧ R.size ≤ 1048576)) (hM : Hid (M.length ≤ 1048576 ∧ (∀ s ∈ M, s.size ≤ 1048576) ∧ S.size ≤ 1048576)) :
    Calls Tryd.prog 16 #[sgV a L.length c R, sgV a' M.length c' S] w fun e w' => e = .returned (.tuple #[.bool (sbS L R M S), .bool (sbG L R M S)]) ∧ Below w.heap.size w w' := by
  obtain ⟨g, hgs⟩ : ∃ g, w.heap.size = g := ⟨_, rfl⟩
  obtain ⟨n, hn⟩ : ∃ n, L.length = n := ⟨_, rfl⟩
  obtain ⟨m, hm⟩ : ∃ n, M.length = n := ⟨_, rfl⟩
  obtain ⟨W, hW⟩ : ∃ W, (w.alloc (.cells #[.slice a n c, .string R] 33)).alloc (.cells #[.slice a' m c', .string S] 33) = W := ⟨_, rfl⟩
  have hb0 : Below w.heap.size w W := by rw [← hW]; exact ((Below.refl _ _).alloc (Nat.le_refl _) _).alloc (by simp) _
  have HW : Hid (W.heap[g]? = some (.cells #[.slice a n c, .string R] 33 (0, 0)) ∧ W.heap[g + 1]? = some (.cells #[.slice a' m c', .string S] 33 (0, 0)) ∧ W.heap.size = g + 1 + 1) := by
    unfold Hid; rw [← hW, ← hgs]
    exact ⟨s_old (heap_alloc_new _ _), s_blk (by simp), by simp⟩
  have HC : Hid (∀ U, Below W.heap.size W U → Calls Tryd.prog 12 #[.agg #[.slice a n c, .string R]] U fun e w' => e = .returned (.bool (gsg L R)) ∧ Below U.heap.size U w') := fun U hU => by
    have hb := below2 hb0 hU
    rw [← hn]
    exact specGSig a c L R U (hA.out.below hb) hL.out.1 hL.out.2.1 hL.out.2.2
  have HD : Hid (∀ U, Below W.heap.size W U → Calls Tryd.prog 12 #[.agg #[.slice a' m c', .string S]] U fun e w' => e = .returned (.bool (gsg M S)) ∧ Below U.heap.size U w') := fun U hU => by
    have hb := below2 hb0 hU
    rw [← hm]
    exact specGSig a' c' M S U (hA'.out.below hb) hM.out.1 hM.out.2.1 hM.out.2.2
  have HBK : Hid (∀ U, Below W.heap.size W U → (U.cell? ⟨g, 0, none⟩ = some (.slice a n c) ∧ U.cell? ⟨g, 1, none⟩ = some (.string R)) ∧ U.cell? ⟨g + 1, 0, none⟩ = some (.slice a' m c') ∧ U.cell? ⟨g + 1, 1, none⟩ = some (.string S)) := fun U hU => by
    obtain ⟨p1, p2, p3⟩ := HW.out
    exact ⟨(two ((hU.block g (by omega)).trans p1)).1, (two ((hU.block (g + 1) (by omega)).trans p2)).1⟩
  have HWB : Hid (∀ U, Below W.heap.size W U → Below g w U) := fun U hU => by rw [← hgs]; exact below2 hb0 hU
  have HWC : Hid (∀ U, Below W.heap.size W U → Below w.heap.size w U) := fun U hU => below2 hb0 hU
  have HSA : Hid (SA W a L ∧ SA W a' M) := ⟨hA.out.below hb0, hA'.out.below hb0⟩
  have HNM : Hid (L.length = n ∧ M.length = m ∧ n ≤ 1048576) := ⟨hn, hm, by rw [← hn]; exact hL.out.1⟩
  unfold sbS sbG
  rw [hn, hm]
  obtain ⟨GA, hGA⟩ : ∃ q, gsg L R = q := ⟨_, rfl⟩
  obtain ⟨GB, hGB⟩ : ∃ q, gsg M S = q := ⟨_, rfl⟩
  obtain ⟨Q, hQ⟩ : ∃ q, eqL L M = q := ⟨_, rfl⟩
  obtain ⟨E, hEE⟩ : ∃ q, (R.toList == S.toList) = q := ⟨_, rfl⟩
  rw [hGA] at HC ⊢
  rw [hGB] at HD ⊢
  rw [hQ, hEE]
  have HEE : Hid ((R.toList == S.toList) = E ∧ eqL L M = Q) := ⟨hEE, hQ⟩
  obtain ⟨⟨x0, x1⟩, y0, y1⟩ := HBK.out W (Below.refl _ _)
  clear hGA hGB hQ hEE hA hA' hL hM hn hm hb0 HW
  go_enter Tryd.func16, Tryd.ntmps16
  go_wp2_with fail
  refine (HC.out W (Below.refl _ _)).mono ?_
  rintro e w1 ⟨rfl, hb1⟩
  have HB1 : Hid (Below W.heap.size W w1) := hb1
  clear hb1 x0 x1 y0 y1 HC
  cases GA with
  | false =>
    go_wp2
    go_ret2
    exact ⟨rfl, by first | exact HWB.out _ HB1.out | exact HWC.out _ HB1.out⟩
  | true =>
    obtain ⟨⟨x0, x1⟩, y0, y1⟩ := HBK.out w1 HB1.out
    go_wp2_with fail
    refine (HD.out w1 HB1.out).mono ?_
    rintro e w2 ⟨rfl, hb2⟩
    have HB2 : Hid (Below W.heap.size W w2) := below2 HB1.out hb2
    clear hb2 x0 x1 y0 y1 HD HB1
    cases GB with
    | false =>
      go_wp2
      go_ret2
      exact ⟨rfl, by first | exact HWB.out _ HB2.out | exact HWC.out _ HB2.out⟩
    | true =>
      obtain ⟨⟨x0, x1⟩, y0, y1⟩ := HBK.out w2 HB2.out
      by_cases hnm : (n : Int) = (m : Int)
      · have hee := HEE.out.1
        cases E with
        | false =>
          go_wp2
          go_ret2
          exact ⟨by first | rfl | (cases Q <;> rfl), by first | exact HWB.out _ HB2.out | exact HWC.out _ HB2.out⟩
        | true =>
          have hnm2 : n = m := by omega
          subst hnm2
          clear hnm
          have hnb : n ≤ 1048576 := HNM.out.2.2
          go_wp2
          go_loopw [6, 32] (fun _ i wr => ∃ k : Nat, k ≤ n ∧ i = .int .i64 k ∧ Hid (Below W.heap.size W wr) ∧ Hid (∀ j (h1 : j < L.length) (h2 : j < M.length), j < k → L[j].toList = M[j].toList)) (fun _ i _ => n - (intOf i).toNat)
          case atStart => exact ⟨0, by omega, rfl, HB2.out, fun j _ _ h => by omega⟩
          case round =>
            obtain ⟨k, hk, rfl, HB, HJ⟩ := hrel
            clear x0 x1 y0 y1
            obtain ⟨⟨x0, x1⟩, y0, y1⟩ := HBK.out wr HB.out
            by_cases hlt : k < n
            · have hl1 : k < L.length := by have := HNM.out; omega
              have hl2 : k < M.length := by have := HNM.out; omega
              obtain ⟨b, off, rfl, hb, hc⟩ := HSA.out.1.at hl1
              obtain ⟨b', off', rfl, hb', hc'⟩ := HSA.out.2.at hl2
              have hc0 := (HB.out.cell (p := ⟨b, off + k, none⟩) hb).trans hc
              have hd0 := (HB.out.cell (p := ⟨b', off' + k, none⟩) hb').trans hc'
              have HK : Hid ((L[k].toList == M[k].toList) = false → Q = false) := fun h => by rw [← HEE.out.2]; exact eqL_no hl1 hl2 h
              have HK2 : Hid ((L[k].toList == M[k].toList) = true → ∀ j (h1 : j < L.length) (h2 : j < M.length), j < k + 1 → L[j].toList = M[j].toList) := fun h j h1 h2 h3 => by
                by_cases e : j = k
                · subst e; exact eq_of_beq h
                · exact HJ.out j h1 h2 (by omega)
              obtain ⟨x, hx⟩ : ∃ x, x = L[k] := ⟨_, rfl⟩
              obtain ⟨y, hy⟩ : ∃ y, y = M[k] := ⟨_, rfl⟩
              rw [← hx] at hc0 HK HK2
              rw [← hy] at hd0 HK HK2
              clear hx hy hc hc' hl1 hl2
              cases hxy : x.toList == y.toList with
              | true =>
                have HK3 := HK2.out hxy
                have HK4 : Hid (∀ j (h1 : j < L.length) (h2 : j < M.length), j < k + 1 → L[j].toList = M[j].toList) := HK3
                clear HK HK2 HK3 HJ
                go_wp2
                go_region
                all_goals
                  go_wp2
                  go_roundw
                  case rel => exact ⟨k + 1, by omega, by go_num, by first | exact HB.out | exact HB.out.drew | (simp only [World.drew]; exact HB.out), HK4.out⟩
                  case measure => simp [intOf]; omega
              | false =>
                have hq := HK.out hxy
                subst hq
                clear HK HK2 HJ
                go_wp2
                go_region
                all_goals
                  go_wp2
                  go_ret2
                  exact ⟨rfl, by first | exact HWB.out _ HB.out | exact HWC.out _ HB.out | exact (HWB.out _ HB.out).drew | exact (HWC.out _ HB.out).drew⟩
            · have hq : Q = true := by rw [← HEE.out.2]; exact eqL_yes (by have := HNM.out; omega) (fun j h1 h2 => HJ.out j h1 h2 (by have := HNM.out; omega))
              subst hq
              go_wp2
              go_ret2
              exact ⟨rfl, by first | exact HWB.out _ HB.out | exact HWC.out _ HB.out⟩
      · have hq : Q = false := by rw [← HEE.out.2]; exact eqL_len (by have := HNM.out; omega)
        subst hq
        go_wp2
        go_ret2
        exact ⟨by first | rfl | (cases E <;> rfl), by first | exact HWB.out _ HB2.out | exact HWC.out _ HB2.out⟩

end Go.Proofs.YtfepbjkfabmiiaaDoor

namespace Go.Proofs.YtfepbjkfabmiiaaDoor
open Go.ChangeShapes Go.WideShapes Go.ChangeAt Go.RowKit Go.PlainAid

set_option maxRecDepth 100000 in
set_option maxHeartbeats 6400000 in
theorem subtype_law (a a' : Option Addr) (c c' : Nat) (L M : List ByteArray) (R S : ByteArray) (w : World) (h : Hid (IsSig w a L R)) (h' : Hid (IsSig w a' M S)) (hT : Hid (Tabs w)) (hE : Hid (Errs w)) (hP : Hid (Pows w)) :
    Calls Tryd.prog 5 #[sgV a L.length c R, sgV a' M.length c' S] w fun e w' => e = .returned (.bool true) ∧ Below w.heap.size w w' := by
  obtain ⟨g, hgs⟩ : ∃ g, w.heap.size = g := ⟨_, rfl⟩
  obtain ⟨n, hn⟩ : ∃ n, L.length = n := ⟨_, rfl⟩
  obtain ⟨m, hm⟩ : ∃ n, M.length = n := ⟨_, rfl⟩
  obtain ⟨W, hW⟩ : ∃ W, (w.alloc (.cells #[.slice a n c, .string R] 30)).alloc (.cells #[.slice a' m c', .string S] 30) = W := ⟨_, rfl⟩
  have hb0 : Below w.heap.size w W := by rw [← hW]; exact ((Below.refl _ _).alloc (Nat.le_refl _) _).alloc (by simp) _
  have HW : Hid (W.heap[g]? = some (.cells #[.slice a n c, .string R] 30 (0, 0)) ∧ W.heap[g + 1]? = some (.cells #[.slice a' m c', .string S] 30 (0, 0)) ∧ W.heap.size = g + 1 + 1) := by
    unfold Hid; rw [← hW, ← hgs]
    exact ⟨s_old (heap_alloc_new _ _), s_blk (by simp), by simp⟩
  have HIS : Hid (∀ U, Below W.heap.size W U → IsSig U a L R ∧ IsSig U a' M S) := fun U hU => ⟨⟨(h.out.1.below hb0).below hU, h.out.2⟩, (h'.out.1.below hb0).below hU, h'.out.2⟩
  have HTP : Hid (∀ U, Below W.heap.size W U → Tabs U ∧ Errs U ∧ Pows U) := fun U hU => by
    have hb := below2 hb0 hU
    exact ⟨hT.out.below hb (Nat.le_refl _), hE.out.below hb hE.out.1.1 hE.out.2.1, hP.out.below hb (Nat.le_refl _)⟩
  have HWB : Hid (∀ U, Below W.heap.size W U → Below g w U) := fun U hU => by rw [← hgs]; exact below2 hb0 hU
  have HWC : Hid (∀ U, Below W.heap.size W U → Below w.heap.size w U) := fun U hU => below2 hb0 hU
  have HBK : Hid (∀ U, Below W.heap.size W U → (U.cell? ⟨g, 0, none⟩ = some (.slice a n c) ∧ U.cell? ⟨g, 1, none⟩ = some (.string R)) ∧ U.cell? ⟨g + 1, 0, none⟩ = some (.slice a' m c') ∧ U.cell? ⟨g + 1, 1, none⟩ = some (.string S)) := fun U hU => by
    obtain ⟨p1, p2, p3⟩ := HW.out
    exact ⟨(two ((hU.block g (by omega)).trans p1)).1, (two ((hU.block (g + 1) (by omega)).trans p2)).1⟩
  have Z := szSig a c L R 1048576 W (HIS.out W (Below.refl _ _)).1 (by omega) (by omega)
  have ZB : Hid (∀ U l0, Below W.heap.size W U → 0 ≤ l0 → l0 ≤ 1048576 → Calls Tryd.prog 11 #[.agg #[.slice a' m c', .string S], .int .i64 l0] U fun e w' => ∃ r : Int, e = .returned (.int .i64 r) ∧ r ≤ 1048576 ∧ (0 ≤ r → M.length ≤ 1048576 ∧ (∀ s ∈ M, s.size ≤ 1048576) ∧ S.size ≤ 1048576) ∧ Below U.heap.size U w') := fun U l0 hU h0 h1 => by
    have := szSig a' c' M S l0 U (HIS.out U hU).2 h0 h1
    rw [hm] at this ⊢
    exact this
  rw [hn] at Z ⊢
  rw [hm]
  have HNM : Hid (L.length = n ∧ M.length = m) := ⟨hn, hm⟩
  obtain ⟨⟨x0, x1⟩, y0, y1⟩ := HBK.out W (Below.refl _ _)
  clear hb0 h h' hT hE hP HW hn hm
  go_enter Tryd.func5, Tryd.ntmps5
  go_wp2_with fail
  refine Z.mono ?_
  rintro e w1 ⟨r, rfl, hr1, hr, hb1⟩
  have HB1 : Hid (Below W.heap.size W w1) := hb1
  have HR1 : Hid (0 ≤ r → n ≤ 1048576 ∧ (∀ s ∈ L, s.size ≤ 1048576) ∧ R.size ≤ 1048576) := hr
  clear Z hb1 x0 x1 y0 y1 hr
  by_cases hr0 : r < 0
  · go_wp2
    go_ret
    first | exact ⟨rfl, HWB.out _ HB1.out⟩ | exact ⟨rfl, HWC.out _ HB1.out⟩
  · have ZB1 := ZB.out w1 r HB1.out (by omega) hr1
    obtain ⟨⟨x0, x1⟩, y0, y1⟩ := HBK.out w1 HB1.out
    go_wp2_with fail
    refine ZB1.mono ?_
    rintro e w2 ⟨r2, rfl, _, hr2, hb2⟩
    have HB2 : Hid (Below W.heap.size W w2) := below2 HB1.out hb2
    have HR2 : Hid (0 ≤ r2 → M.length ≤ 1048576 ∧ (∀ s ∈ M, s.size ≤ 1048576) ∧ S.size ≤ 1048576) := hr2
    clear ZB1 ZB hb2 hr2 x0 x1 y0 y1 HB1
    by_cases hr3 : r2 < 0
    · go_wp2
      go_ret
      first | exact ⟨rfl, HWB.out _ HB2.out⟩ | exact ⟨rfl, HWC.out _ HB2.out⟩
    · have HSL : Hid (L.length ≤ 1048576 ∧ (∀ s ∈ L, s.size ≤ 1048576) ∧ R.size ≤ 1048576) := by
        unfold Hid; rw [HNM.out.1]; exact HR1.out (by omega)
      have HSM : Hid (M.length ≤ 1048576 ∧ (∀ s ∈ M, s.size ≤ 1048576) ∧ S.size ≤ 1048576) := HR2.out (by omega)
      clear HR1 HR2 hr1
      have TA : Hid (∀ U, Below W.heap.size W U → Calls Tryd.prog 13 #[.agg #[.slice a n c, .string R]] U fun e w' => ∃ g, e = .returned (.agg #[.slice (some ⟨g, 0, none⟩) n n, .string R]) ∧ U.heap.size ≤ g ∧ g < w'.heap.size ∧ stAt w' g 0 L ∧ Below U.heap.size U w') := fun U hU => by
        have := toSig a c L R U (HIS.out U hU).1.1 HSL.out.1
        rw [HNM.out.1] at this
        exact this
      have TB : Hid (∀ U, Below W.heap.size W U → Calls Tryd.prog 13 #[.agg #[.slice a' m c', .string S]] U fun e w' => ∃ g, e = .returned (.agg #[.slice (some ⟨g, 0, none⟩) m m, .string S]) ∧ U.heap.size ≤ g ∧ g < w'.heap.size ∧ stAt w' g 0 M ∧ Below U.heap.size U w') := fun U hU => by
        have := toSig a' c' M S U (HIS.out U hU).2.1 HSM.out.1
        rw [HNM.out.2] at this
        exact this
      have SS : Hid (∀ U b b', b < U.heap.size → stAt U b 0 L → b' < U.heap.size → stAt U b' 0 M → Calls Tryd.prog 16 #[.agg #[.slice (some ⟨b, 0, none⟩) n n, .string R], .agg #[.slice (some ⟨b', 0, none⟩) m m, .string S]] U fun e w' => e = .returned (.tuple #[.bool (sbS L R M S), .bool (sbG L R M S)]) ∧ Below U.heap.size U w') := fun U b b' h1 h2 h3 h4 => by
        have := specSub (some ⟨b, 0, none⟩) (some ⟨b', 0, none⟩) L.length M.length L M R S U (sa_of h1 h2) (sa_of h3 h4) HSL.out HSM.out
        rw [HNM.out.1, HNM.out.2] at this
        exact this
      have II : Hid (∀ U b b', Below W.heap.size W U → b < U.heap.size → stAt U b 0 L → b' < U.heap.size → stAt U b' 0 M → Calls Tryd.prog 17 #[.agg #[.slice (some ⟨b, 0, none⟩) n n, .string R], .agg #[.slice (some ⟨b', 0, none⟩) m m, .string S]] U fun e w' => e = .returned (.tuple #[.bool (sbS L R M S), .bool (sbG L R M S)]) ∧ Below U.heap.size U w') := fun U b b' h0 h1 h2 h3 h4 => by
        have := implSub (some ⟨b, 0, none⟩) (some ⟨b', 0, none⟩) L.length M.length L M R S U (sa_of h1 h2) (sa_of h3 h4) HSL.out HSM.out (HTP.out U h0).1 (HTP.out U h0).2.1 (HTP.out U h0).2.2
        rw [HNM.out.1, HNM.out.2] at this
        exact this
      have EA : Hid (∀ U b b', b < U.heap.size → stAt U b 0 L → b' < U.heap.size → stAt U b' 0 L → Calls Tryd.prog 15 #[.agg #[.slice (some ⟨b, 0, none⟩) n n, .string R], .agg #[.slice (some ⟨b', 0, none⟩) n n, .string R]] U fun e w' => e = .returned (.bool true) ∧ Below U.heap.size U w') := fun U b b' h1 h2 h3 h4 => by
        have := eqSig (some ⟨b, 0, none⟩) (some ⟨b', 0, none⟩) L.length L.length L R U (sa_of h1 h2) (sa_of h3 h4) (by have := HSL.out.1; omega)
        rw [HNM.out.1] at this
        exact this
      have EB : Hid (∀ U b b', b < U.heap.size → stAt U b 0 M → b' < U.heap.size → stAt U b' 0 M → Calls Tryd.prog 15 #[.agg #[.slice (some ⟨b, 0, none⟩) m m, .string S], .agg #[.slice (some ⟨b', 0, none⟩) m m, .string S]] U fun e w' => e = .returned (.bool true) ∧ Below U.heap.size U w') := fun U b b' h1 h2 h3 h4 => by
        have := eqSig (some ⟨b, 0, none⟩) (some ⟨b', 0, none⟩) M.length M.length M S U (sa_of h1 h2) (sa_of h3 h4) (by have := HSM.out.1; omega)
        rw [HNM.out.2] at this
        exact this
      obtain ⟨G1, hG1⟩ : ∃ G, sbS L R M S = G := ⟨_, rfl⟩
      obtain ⟨G2, hG2⟩ : ∃ G, sbG L R M S = G := ⟨_, rfl⟩
      rw [hG1, hG2] at SS II
      clear hG1 hG2 HIS HTP HSL HSM HNM
      obtain ⟨⟨x0, x1⟩, y0, y1⟩ := HBK.out w2 HB2.out
      go_upto_region 8 with fail
      go_cut [6, 7] (fun s t wx => s = .bool G1 ∧ t = .bool G2 ∧ Hid (Below W.heap.size W wx))
      case first =>
        go_wp2
        go_region_with (first
          | (go_at_call_of 13 R; refine (TA.out _ (by first | exact HB2.out | exact HB2.out.drew | exact HB2.out.drew.drew | exact HB2.out.drew.drew.drew | exact HB2.out.drew.drew.drew.drew)).mono ?_; rintro e wA ⟨bA, rfl, _, hq2, hst, hbA⟩; have KA : Hid (Below W.heap.size W wA) := (by first | exact below2 HB2.out hbA | exact below2 HB2.out.drew hbA | exact below2 HB2.out.drew.drew hbA | exact below2 HB2.out.drew.drew.drew hbA | exact below2 HB2.out.drew.drew.drew.drew hbA); have KA2 : Hid (∀ U, Below wA.heap.size wA U → bA < U.heap.size ∧ stAt U bA 0 L) := (fun U hU => ⟨Nat.lt_of_lt_of_le hq2 hU.size, hst.below hU hq2⟩); obtain ⟨⟨x0, x1⟩, y0, y1⟩ := HBK.out _ KA.out; clear hbA hst hq2)
          | (go_at_call_of 13 S; refine (TB.out _ (by first | exact KA.out | exact KA.out.drew | exact KA.out.drew.drew | exact KA.out.drew.drew.drew | exact KA.out.drew.drew.drew.drew)).mono ?_; rintro e wB ⟨bB, rfl, _, hq2, hst, hbB⟩; have KAB : Hid (Below wA.heap.size wA wB) := (by first | exact hbB | exact below2 (Below.refl _ _).drew hbB | exact below2 (Below.refl _ _).drew.drew hbB | exact below2 (Below.refl _ _).drew.drew.drew hbB); have KB : Hid (bB < wB.heap.size ∧ stAt wB bB 0 M) := ⟨hq2, hst⟩; have KB1 : Hid (Below W.heap.size W wB) := below2 KA.out KAB.out; obtain ⟨⟨x0, x1⟩, y0, y1⟩ := HBK.out _ KB1.out; clear hbB hst hq2)
          | (go_at_call 16; refine (SS.out _ _ _ (KA2.out _ (by first | exact KAB.out | exact KAB.out.drew | exact KAB.out.drew.drew | exact KAB.out.drew.drew.drew)).1 (KA2.out _ (by first | exact KAB.out | exact KAB.out.drew | exact KAB.out.drew.drew | exact KAB.out.drew.drew.drew)).2 (by first | exact KB.out.1 | (simp only [World.drew]; exact KB.out.1)) (by first | exact KB.out.2 | exact KB.out.2.below (Below.refl _ _).drew KB.out.1 | exact KB.out.2.below (Below.refl _ _).drew.drew KB.out.1 | exact KB.out.2.below (Below.refl _ _).drew.drew.drew KB.out.1)).mono ?_; rintro e wS ⟨rfl, hbS⟩; have KS : Hid (Below W.heap.size W wS) := (by first | exact below2 KB1.out hbS | exact below2 KB1.out.drew hbS | exact below2 KB1.out.drew.drew hbS | exact below2 KB1.out.drew.drew.drew hbS); clear hbS))
        all_goals
          go_wp2
          go_meet
          exact ⟨rfl, rfl, (by first | exact KS.out | exact KS.out.drew | exact KS.out.drew.drew | exact KS.out.drew.drew.drew)⟩
      case rest =>
        obtain ⟨rfl, rfl, HB3⟩ := hcut
        clear SS x0 x1 y0 y1
        obtain ⟨w3, hw3⟩ : ∃ x, wc = x := ⟨_, rfl⟩
        rw [hw3] at HB3 ⊢
        clear hw3
        obtain ⟨⟨x0, x1⟩, y0, y1⟩ := HBK.out w3 HB3.out
        go_wp2_with fail
        refine (TA.out w3 HB3.out).mono ?_
        rintro e w4 ⟨b4, rfl, _, hg2, hst, hb4⟩
        have HB4 : Hid (Below W.heap.size W w4) := below2 HB3.out hb4
        obtain ⟨y, hy⟩ : ∃ y, w4.heap.size = y := ⟨_, rfl⟩
        obtain ⟨X, hX⟩ : ∃ X, w4.alloc (.cells #[.slice (some ⟨b4, 0, none⟩) n n, .string R] 33) = X := ⟨_, rfl⟩
        have HX : Hid (X.heap[y]? = some (.cells #[.slice (some ⟨b4, 0, none⟩) n n, .string R] 33 (0, 0)) ∧ X.heap.size = y + 1 ∧ Below W.heap.size W X ∧ b4 < y ∧ stAt X b4 0 L) := by
          have hb : Below w4.heap.size w4 X := by rw [← hX]; exact (Below.refl _ _).alloc (Nat.le_refl _) _
          refine ⟨by rw [← hX, ← hy]; exact heap_alloc_new _ _, by rw [← hX, ← hy]; simp, below2 HB4.out hb, by rw [← hy]; exact hg2, hst.below hb hg2⟩
        clear hg2 hst hb4 x0 x1 y0 y1 HB3 HB4 HB2
        obtain ⟨⟨x0, x1⟩, y0, y1⟩ := HBK.out X HX.out.2.2.1
        go_wp2_with fail
        refine (TB.out X HX.out.2.2.1).mono ?_
        rintro e w5 ⟨b5, rfl, _, hg2, hst, hb5⟩
        obtain ⟨z, hz⟩ : ∃ z, w5.heap.size = z := ⟨_, rfl⟩
        obtain ⟨Y, hY⟩ : ∃ Y, w5.alloc (.cells #[.slice (some ⟨b5, 0, none⟩) m m, .string S] 33) = Y := ⟨_, rfl⟩
        have HY : Hid (Y.heap[z]? = some (.cells #[.slice (some ⟨b5, 0, none⟩) m m, .string S] 33 (0, 0)) ∧ Y.heap.size = z + 1 ∧ Below X.heap.size X Y ∧ b5 < z ∧ stAt Y b5 0 M) := by
          have hb : Below w5.heap.size w5 Y := by rw [← hY]; exact (Below.refl _ _).alloc (Nat.le_refl _) _
          refine ⟨by rw [← hY, ← hz]; exact heap_alloc_new _ _, by rw [← hY, ← hz]; simp, below2 hb5 hb, by rw [← hz]; exact hg2, hst.below hb hg2⟩
        clear hg2 hst hb5 x0 x1 y0 y1 hX hy
        have HZ : Hid (∀ U, Below Y.heap.size Y U → (U.cell? ⟨y, 0, none⟩ = some (.slice (some ⟨b4, 0, none⟩) n n) ∧ U.cell? ⟨y, 1, none⟩ = some (.string R)) ∧ (U.cell? ⟨z, 0, none⟩ = some (.slice (some ⟨b5, 0, none⟩) m m) ∧ U.cell? ⟨z, 1, none⟩ = some (.string S)) ∧ (b4 < U.heap.size ∧ stAt U b4 0 L) ∧ (b5 < U.heap.size ∧ stAt U b5 0 M) ∧ Below W.heap.size W U) := fun U hU => by
          obtain ⟨p1, p2, p3, p4, p5⟩ := HX.out
          obtain ⟨q1, q2, q3, q4, q5⟩ := HY.out
          have hXU : Below X.heap.size X U := below2 q3 hU
          have hs := q3.size
          have hs2 := hU.size
          exact ⟨(two ((hXU.block y (by omega)).trans p1)).1, (two ((hU.block z (by omega)).trans q1)).1, ⟨by omega, p5.below hXU (by omega)⟩, ⟨by omega, q5.below hU (by omega)⟩, below2 p3 hXU⟩
        obtain ⟨⟨u0, u1⟩, ⟨v0, v1⟩, ⟨k1, k2⟩, ⟨k3, k4⟩, k5⟩ := HZ.out Y (Below.refl _ _)
        have I2 := II.out Y b4 b5 k5 k1 k2 k3 k4
        clear II k1 k2 k3 k4 k5 HX HY
        go_wp2_with fail
        refine I2.mono ?_
        rintro e w6 ⟨rfl, hb6⟩
        have KK : Hid (Below Y.heap.size Y w6) := hb6
        clear I2 hb6 u0 u1 v0 v1
        obtain ⟨⟨u0, u1⟩, ⟨v0, v1⟩, _, _, k5⟩ := HZ.out w6 KK.out
        obtain ⟨⟨x0, x1⟩, y0, y1⟩ := HBK.out w6 k5
        clear k5 hY hz
        have hr1 : (G1 != G1) = false := by cases G1 <;> rfl
        have hr2 : (!(G1 == G1)) = false := by cases G1 <;> rfl
        have hr3 : (G2 != G2) = false := by cases G2 <;> rfl
        have hr4 : (!(G2 == G2)) = false := by cases G2 <;> rfl
        go_upto_region 14 with fail
        go_cut [52] (fun s wx => s = .bool false ∧ Hid (Below Y.heap.size Y wx))
        case first =>
          go_wp2
          go_region_with (first
          | (go_at_call 13; refine (TA.out _ (by first | exact (HZ.out _ KK.out).2.2.2.2 | exact (HZ.out _ KK.out.drew).2.2.2.2 | exact (HZ.out _ KK.out.drew.drew).2.2.2.2 | exact (HZ.out _ KK.out.drew.drew.drew).2.2.2.2)).mono ?_; rintro e wA ⟨bA, rfl, _, hq2, hst, hbA⟩; have KA : Hid (Below Y.heap.size Y wA) := (by first | exact below2 KK.out hbA | exact below2 KK.out.drew hbA | exact below2 KK.out.drew.drew hbA | exact below2 KK.out.drew.drew.drew hbA); have KB : Hid (bA < wA.heap.size ∧ stAt wA bA 0 L) := ⟨hq2, hst⟩; obtain ⟨⟨u0, u1⟩, ⟨v0, v1⟩, _⟩ := HZ.out _ KA.out; clear hbA hst hq2)
          | (go_at_call 15; refine (EA.out _ b4 _ (HZ.out _ (by first | exact KA.out | exact KA.out.drew | exact KA.out.drew.drew | exact KA.out.drew.drew.drew)).2.2.1.1 (HZ.out _ (by first | exact KA.out | exact KA.out.drew | exact KA.out.drew.drew | exact KA.out.drew.drew.drew)).2.2.1.2 (by first | exact KB.out.1 | (simp only [World.drew]; exact KB.out.1)) (by first | exact KB.out.2 | exact KB.out.2.below (Below.refl _ _).drew KB.out.1 | exact KB.out.2.below (Below.refl _ _).drew.drew KB.out.1 | exact KB.out.2.below (Below.refl _ _).drew.drew.drew KB.out.1)).mono ?_; rintro e wS ⟨rfl, hbS⟩; have KS : Hid (Below Y.heap.size Y wS) := (by first | exact below2 KA.out hbS | exact below2 KA.out.drew hbS | exact below2 KA.out.drew.drew hbS | exact below2 KA.out.drew.drew.drew hbS); clear hbS))
          all_goals
            go_wp2
            go_meet
            exact ⟨rfl, (by first | exact KS.out | exact KS.out.drew | exact KS.out.drew.drew | exact KS.out.drew.drew.drew)⟩
        case rest =>
          obtain ⟨rfl, HC6⟩ := hcut
          clear KK u0 u1 v0 v1 x0 x1 y0 y1 hr1 hr2 hr3 hr4
          obtain ⟨w7, hw7⟩ : ∃ x, wc = x := ⟨_, rfl⟩
          rw [hw7] at HC6 ⊢
          clear hw7
          have KK : Hid (Below Y.heap.size Y w7) := HC6
          clear HC6
          obtain ⟨⟨u0, u1⟩, ⟨v0, v1⟩, _, _, k5⟩ := HZ.out w7 KK.out
          obtain ⟨⟨x0, x1⟩, y0, y1⟩ := HBK.out w7 k5
          clear k5
          go_wp2
          go_region_with (first
          | (go_at_call 13; refine (TB.out _ (by first | exact (HZ.out _ KK.out).2.2.2.2 | exact (HZ.out _ KK.out.drew).2.2.2.2 | exact (HZ.out _ KK.out.drew.drew).2.2.2.2 | exact (HZ.out _ KK.out.drew.drew.drew).2.2.2.2)).mono ?_; rintro e wA ⟨bA, rfl, _, hq2, hst, hbA⟩; have KA : Hid (Below Y.heap.size Y wA) := (by first | exact below2 KK.out hbA | exact below2 KK.out.drew hbA | exact below2 KK.out.drew.drew hbA | exact below2 KK.out.drew.drew.drew hbA); have KB : Hid (bA < wA.heap.size ∧ stAt wA bA 0 M) := ⟨hq2, hst⟩; obtain ⟨⟨u0, u1⟩, ⟨v0, v1⟩, _⟩ := HZ.out _ KA.out; clear hbA hst hq2)
          | (go_at_call 15; refine (EB.out _ b5 _ (HZ.out _ (by first | exact KA.out | exact KA.out.drew | exact KA.out.drew.drew | exact KA.out.drew.drew.drew)).2.2.2.1.1 (HZ.out _ (by first | exact KA.out | exact KA.out.drew | exact KA.out.drew.drew | exact KA.out.drew.drew.drew)).2.2.2.1.2 (by first | exact KB.out.1 | (simp only [World.drew]; exact KB.out.1)) (by first | exact KB.out.2 | exact KB.out.2.below (Below.refl _ _).drew KB.out.1 | exact KB.out.2.below (Below.refl _ _).drew.drew KB.out.1 | exact KB.out.2.below (Below.refl _ _).drew.drew.drew KB.out.1)).mono ?_; rintro e wS ⟨rfl, hbS⟩; have KS : Hid (Below Y.heap.size Y wS) := (by first | exact below2 KA.out hbS | exact below2 KA.out.drew hbS | exact below2 KA.out.drew.drew hbS | exact below2 KA.out.drew.drew.drew hbS); clear hbS))
          all_goals
            go_wp2
            go_ret
            first | exact ⟨rfl, HWB.out _ (HZ.out _ (by first | exact KS.out | exact KS.out.drew | exact KS.out.drew.drew | exact KS.out.drew.drew.drew)).2.2.2.2⟩ | exact ⟨rfl, HWC.out _ (HZ.out _ (by first | exact KS.out | exact KS.out.drew | exact KS.out.drew.drew | exact KS.out.drew.drew.drew)).2.2.2.2⟩

theorem subtype_walk (a : Option Addr) (c : Nat) (L : List ByteArray) (R : ByteArray) (a' : Option Addr) (c' : Nat) (M : List ByteArray) (S : ByteArray) (w : World) (h : IsSig w a L R) (h' : IsSig w a' M S) (hT : Tabs w ∧ Pows w ∧ Errs w) :
    Calls Tryd.prog 5 #[sgV a L.length c R, sgV a' M.length c' S] w fun e w' => e = .returned (.bool true) ∧ Below w.heap.size w w' := subtype_law a a' c c' L M R S w h h' hT.1 hT.2.2 hT.2.1

end Go.Proofs.YtfepbjkfabmiiaaDoor
