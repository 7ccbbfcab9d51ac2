/-
  Rows of nodes that the law marks and holds.
-/
import Derived.Test.YtebendaiokchdaaDoorX2
import Derived.Test.YtebendaiokchdaaDoorQHide
import Derived.Deep.RegionWith
import Derived.Test.YtebendaiokchdaaDoorV3
import Derived.Test.YtebendaiokchdaaDoorYTxL
import Derived.Test.YtebendaiokchdaaDoorYHi
import Derived.Laws.StructEq
namespace Go.Proofs.YtebendaiokchdaaDoor
open Go.ChangeShapes Go.WideShapes Go.ChangeAt Go.RowKit Go.PlainAid

/-- A row of nodes that lies in a block of its own. -/
def NA (w : World) (a : Option Addr) (E : List Nd) : Prop := E ≠ [] → ∃ g, a = some ⟨g, 0, none⟩ ∧ g < w.heap.size ∧ ndAt w g 0 E
theorem NA.below {w w' : World} {a : Option Addr} {E : List Nd} (h : NA w a E) (hb : Below w.heap.size w w') : NA w' a E := fun hn => by
  obtain ⟨g, h1, h2, h3⟩ := h hn
  exact ⟨g, h1, Nat.lt_of_lt_of_le h2 hb.size, h3.below hb h2⟩
theorem ndrow_cells {w : World} {B : Nat} {v : Value} {E : List Nd} (h : NdO B w v E) (hn : 0 < E.length) : ∃ g c cur, v = .slice (some ⟨g, 0, none⟩) E.length c ∧ w.heap[g]? = some (.cells cur 33 (0, 0)) ∧ B ≤ g ∧ E.length * 3 ≤ cur.size ∧ ndAt w g 0 E := by
  obtain ⟨g, c, hv, _⟩ := own_pos h hn
  subst hv
  obtain ⟨cur, hcu, hgb⟩ := own_at h (g := g) rfl
  refine ⟨g, c, cur, rfl, hcu, hgb, ?_, nd_of_own rfl h⟩
  have hat : ∀ j, j < E.length * 3 → cur[j]? = (ndv E)[j]? := fun j hj => by
    have h1 := h.cellAt j (by omega)
    rw [← h1, cell_of_block hcu]
  rcases Nat.lt_or_ge cur.size (E.length * 3) with h1 | h1
  · have h2 := hat cur.size h1
    rw [Array.getElem?_eq_none (Nat.le_refl _), List.getElem?_eq_getElem (by rw [ndv_len]; exact h1)] at h2
    simp at h2
  · exact h1
theorem nds_of_row {w : World} {B : Nat} {v : Value} {E : List Nd} (h : NdO B w v E) : ∃ a c, v = .slice a E.length c ∧ NA w a E := by
  obtain ⟨a, c, hv⟩ := ownsRow_shape h
  refine ⟨a, c, hv, fun hn => ?_⟩
  obtain ⟨g, c', cur, h1, h2, _, _, h3⟩ := ndrow_cells h (List.length_pos_iff.2 hn)
  rw [hv] at h1
  simp only [Value.slice.injEq] at h1
  exact ⟨g, h1.1, lt_of_block h2, h3⟩

/-- The marks of n nodes. -/
def marksN (n : Nat) : List Nd := (List.range n).map fun (i : Nat) => (1 + 3 * (i : Int), 1 + 3 * (i : Int) + 1, 1 + 3 * (i : Int) + 2)
theorem marksN_len (n : Nat) : (marksN n).length = n := by simp [marksN]
theorem marksN_at (n i : Nat) (h : i < (marksN n).length) : (marksN n)[i] = (1 + 3 * (i : Int), 1 + 3 * (i : Int) + 1, 1 + 3 * (i : Int) + 2) := by simp [marksN]

end Go.Proofs.YtebendaiokchdaaDoor

namespace Go.Proofs.YtebendaiokchdaaDoor
open Go.ChangeShapes Go.WideShapes Go.ChangeAt Go.RowKit Go.PlainAid

theorem neqNd (x y z : Int) (w : World) : (binOp .neq 33 (.agg #[.int .i64 x, .int .i64 y, .int .i64 z]) (.agg #[.int .i64 x, .int .i64 y, .int .i64 z])).run Tryd.prog w = .ok (.bool false) w := by
  rw [run_neq_struct, run_equalIn_agg w 9999 33 _ _ (by kernel_rfl) (by kernel_rfl)]
  simp only [Program.fieldsOf, Tryd.underlying33]
  simp [Op.eqFields, go_sem, Tryd.underlying3]
theorem any_take_nd {L : List Nd} {p : Nd → Bool} {m : Nat} (h : m < L.length) : (L.take (m + 1)).any p = ((L.take m).any p || p L[m]) := by
  rw [List.take_succ_eq_append_getElem h, List.any_append]; simp
theorem NA.at {w : World} {a : Option Addr} {L : List Nd} (h : NA w a L) {k : Nat} (hk : k < L.length) : ∃ g, a = some ⟨g, 0, none⟩ ∧ g < w.heap.size ∧ w.cell? ⟨g, k * 3, none⟩ = some (.int .i64 L[k].1) ∧ w.cell? ⟨g, k * 3 + 1, none⟩ = some (.int .i64 L[k].2.1) ∧ w.cell? ⟨g, k * 3 + 2, none⟩ = some (.int .i64 L[k].2.2) := by
  obtain ⟨g, h1, h2, h3⟩ := h (fun e => by simp [e] at hk)
  have h4 := h3 k hk
  rw [Nat.zero_add] at h4
  exact ⟨g, h1, h2, h4⟩

set_option maxRecDepth 100000 in
set_option maxHeartbeats 800000 in
theorem sameT (a a' : Option Addr) (c c' : Nat) (L : List Nd) (w : World) (hA : Hid (NA w a L)) (hA' : Hid (NA w a' L)) (hlen : L.length ≤ 1048576) :
    Calls Tryd.prog 9 #[.slice a L.length c, .slice a' L.length c'] w fun e w' => e = .returned (.bool true) ∧ Below w.heap.size w w' := by
  go_enter Tryd.func9, Tryd.ntmps9
  go_wp2
  go_loopw [5, 13] (fun _ i wr => ∃ k : Nat, k ≤ L.length ∧ i = .int .i64 k ∧ Below w.heap.size w wr) (fun _ i _ => L.length - (intOf i).toNat)
  case atStart => exact ⟨0, by omega, rfl, Below.refl _ _⟩
  case round =>
    obtain ⟨k, hk, rfl, hnx⟩ := hrel
    by_cases hlt : k < L.length
    · obtain ⟨b, rfl, hb, hc⟩ := hA.out.at hlt
      obtain ⟨b', rfl, hb', hc'⟩ := hA'.out.at hlt
      obtain ⟨x, hx⟩ : ∃ x, x = L[k] := ⟨_, rfl⟩
      rw [← hx] at hc hc'
      obtain ⟨x, y, z⟩ := x
      clear hx
      simp only at hc hc'
      have c0 := (hnx.cell (p := ⟨b, k * 3, none⟩) hb).trans hc.1
      have c1 := (hnx.cell (p := ⟨b, k * 3 + 1, none⟩) hb).trans hc.2.1
      have c2 := (hnx.cell (p := ⟨b, k * 3 + 2, none⟩) hb).trans hc.2.2
      have d0 := (hnx.cell (p := ⟨b', k * 3, none⟩) hb').trans hc'.1
      have d1 := (hnx.cell (p := ⟨b', k * 3 + 1, none⟩) hb').trans hc'.2.1
      have d2 := (hnx.cell (p := ⟨b', k * 3 + 2, none⟩) hb').trans hc'.2.2
      clear hc hc'
      have N := neqNd x y z
      go_wp2
      go_region
      all_goals
        go_wp2
        go_roundw
        case rel => exact ⟨k + 1, by omega, by go_num, by first | exact hnx | exact hnx.drew | (simp only [World.drew]; exact hnx)⟩
        case measure => simp [intOf]; omega
    · go_wp2
      go_ret
      exact ⟨rfl, hnx⟩

set_option maxRecDepth 100000 in
set_option maxHeartbeats 3200000 in
theorem types_law (a : Option Addr) (n cap : Nat) (w : World) (hb : Bys w a n w.heap.size) (hT : Hid (Tabs w)) (hE : Hid (Errs w)) (hP : Hid (Pows w)) :
    Calls Tryd.prog 3 #[.slice a n cap] w fun e w' => e = .returned (.bool true) ∧ Below w.heap.size w w' := by
  by_cases hbig : (1048576 : Int) < (n : Int)
  · go_enter Tryd.func3, Tryd.ntmps3
    go_wp2
    go_ret
    exact ⟨rfl, Below.refl _ _⟩
  · have D := drawTypeText a n cap w hb
    clear hb
    go_enter Tryd.func3, Tryd.ntmps3
    go_wp2_with fail
    refine D.mono ?_
    rintro e w1 ⟨v, L, rfl, hO, h1, h2, hb1⟩
    obtain ⟨la, lb, lc, rfl, hla, hat⟩ := ndo_at hO
    have hne : L ≠ [] := fun e => by rw [e] at h1; simp at h1
    have HW : Hid (Below w.heap.size w w1) := hb1
    have HRow : Hid (∀ U, Below w1.heap.size w1 U → (L ≠ [] → la = some ⟨lb, 0, none⟩ ∧ lb < U.heap.size) ∧ ndAt U lb 0 L) := fun U hU => ⟨fun h => ⟨(hla h).1, Nat.lt_of_lt_of_le (hla h).2 hU.size⟩, hat.below hU (hla hne).2⟩
    have HTP : Hid (∀ U, Below w1.heap.size w1 U → Hid (Tabs U) ∧ Hid (Errs U) ∧ Hid (Pows U) ∧ Hid (0 < U.heap.size ∧ 3 < U.heap.size ∧ 4 < U.heap.size)) := fun U hU => by
      have hw := below2 hb1 hU
      have t1 := hT.out.below hw (Nat.le_refl _)
      have t2 := hE.out.below hw hE.out.1.1 hE.out.2.1
      exact ⟨t1, t2, hP.out.below hw (Nat.le_refl _), t1.1, t2.1.1, t2.2.1⟩
    have HWB : Hid (∀ U, Below w1.heap.size w1 U → Below w.heap.size w U) := fun U hU => below2 hb1 hU
    have HL : Hid (1 ≤ L.length ∧ L.length ≤ 100) := ⟨h1, h2⟩
    have IT := implTT la lb 0 lc L w1 (HRow.out w1 (Below.refl _ _)).1 (HRow.out w1 (Below.refl _ _)).2 (by omega) (HTP.out w1 (Below.refl _ _)).1 (HTP.out w1 (Below.refl _ _)).2.2.1
    clear D hO hla hat hne hb1 h1 h2 hT hE hP
    go_wp2_with fail
    refine IT.mono ?_
    rintro e w2 ⟨rfl, hb2⟩
    have HB2 : Hid (Below w1.heap.size w1 w2) := hb2
    have ST := specTT la lb 0 lc L w2 (HRow.out w2 HB2.out).1 (HRow.out w2 HB2.out).2 (by have := HL.out; omega)
    clear IT hb2
    obtain ⟨s, hs⟩ : ∃ s, tt L = s := ⟨_, rfl⟩
    obtain ⟨G, hG⟩ : ∃ G, goodT L = G := ⟨_, rfl⟩
    rw [hs, hG] at ST ⊢
    have HSG : Hid (tt L = s ∧ goodT L = G) := ⟨hs, hG⟩
    clear hs hG
    go_wp2_with fail
    refine ST.mono ?_
    rintro e w3 ⟨rfl, hb3⟩
    have HB3 : Hid (Below w1.heap.size w1 w3) := below2 HB2.out hb3
    have hss : (s.toList == s.toList) = true := by simp
    clear ST hb3 HB2
    cases G with
    | false =>
      have hse : (s.toList == []) = true := by
        obtain ⟨h3, h4⟩ := HSG.out
        unfold tt at h3
        rw [h4, if_neg (by decide)] at h3
        rw [← h3, ByteArray.toList_eq]
        rfl
      go_wp2
      go_ret
      exact ⟨rfl, HWB.out _ HB3.out⟩
    | true =>
      have HRD : Hid (rdB s.data.toList = true ∧ rdM s.data.toList = L ∧ s.size ≤ 1048576) := by
        obtain ⟨h3, h4⟩ := HSG.out
        unfold tt at h3
        rw [h4, if_pos rfl] at h3
        have h5 : txt L L.length 0 = s.data.toList := by rw [← h3, ← ByteArray.toList_eq, bsY_list]
        obtain ⟨h6, h7⟩ := rd_yes h4 h5
        have h8 : s.data.toList.length ≤ 400 := by
          have := h6
          unfold rdB at this
          simp only [Bool.and_eq_true, decide_eq_true_eq] at this
          exact this.1
        have h9 : s.data.toList.length = s.size := by simp
        exact ⟨h6, h7, by omega⟩
      have IR := implRead s HRD.out.2.2 w3 (HTP.out w3 HB3.out).1 (HTP.out w3 HB3.out).2.1 (HTP.out w3 HB3.out).2.2.1 (HTP.out w3 HB3.out).2.2.2
      rw [HRD.out.1, HRD.out.2.1] at IR
      go_wp2_with fail
      refine IR.mono ?_
      rintro e w4 ⟨v4, rfl, hO4, hb4⟩
      obtain ⟨a4, c4, rfl, hA4⟩ := nds_of_row hO4
      have HB4 : Hid (Below w1.heap.size w1 w4) := below2 HB3.out hb4
      have HA4 : Hid (NA w4 a4 L) := hA4
      have IH := implHas la lb 0 lc L w4 (HRow.out w4 HB4.out).1 (HRow.out w4 HB4.out).2 (by have := HL.out; omega) (HTP.out w4 HB4.out).1
      rw [HSG.out.2] at IH
      obtain ⟨H, hH⟩ : ∃ H, hasH L = H := ⟨_, rfl⟩
      rw [hH] at IH
      have HH : Hid (L.any (fun x => isH x.1) = H) := by
        unfold Hid
        rw [← hH]
        unfold hasH
        rw [HSG.out.2, Bool.true_and]
      clear IR hO4 hb4 hA4 hH HB3 HRD hss
      go_wp2_with fail
      refine IH.mono ?_
      rintro e w5 ⟨rfl, hb5⟩
      have HB5 : Hid (Below w1.heap.size w1 w5) := below2 HB4.out hb5
      have HA5 : Hid (NA w5 a4 L) := NA.below HA4.out hb5
      have hNA : NA w5 la L := fun h => ⟨lb, ((HRow.out w5 HB5.out).1 h).1, ((HRow.out w5 HB5.out).1 h).2, (HRow.out w5 HB5.out).2⟩
      have SM := sameT la a4 lc c4 L w5 hNA HA5.out (by have := HL.out; omega)
      clear IH hb5 hNA HA4 HB4
      go_wp2_with fail
      refine SM.mono ?_
      rintro e w6 ⟨rfl, hb6⟩
      have HB6 : Hid (Below w1.heap.size w1 w6) := below2 HB5.out hb6
      clear SM hb6 HA5 HB5
      go_wp2
      go_loopw [12, 14, 66] (fun nm _ i wr => ∃ k : Nat, k ≤ L.length ∧ i = .int .i64 k ∧ nm = .bool ((L.take k).any (fun x => isH x.1)) ∧ Hid (Below w1.heap.size w1 wr)) (fun _ _ i _ => L.length - (intOf i).toNat)
      case atStart => exact ⟨0, by omega, rfl, by simp, HB6.out⟩
      case round =>
        obtain ⟨k, hk, rfl, rfl, HB⟩ := hrel
        have hle := HL.out.2
        by_cases hlt : k < L.length
        · have hat := (HRow.out _ HB.out).2 k hlt
          obtain ⟨rfl, _⟩ := (HRow.out _ HB.out).1 (fun e => by rw [e] at hlt; simp at hlt)
          have HN : Hid ((L.take (k + 1)).any (fun x => isH x.1) = ((L.take k).any (fun x => isH x.1) || isH L[k].1)) := any_take_nd hlt
          obtain ⟨nb, hnb⟩ : ∃ q, (L.take k).any (fun x => isH x.1) = q := ⟨_, rfl⟩
          rw [hnb] at HN ⊢
          clear hnb
          obtain ⟨x, hx⟩ : ∃ x, x = L[k] := ⟨_, rfl⟩
          rw [← hx] at hat HN
          obtain ⟨x, y, z⟩ := x
          clear hx
          simp only [Nat.zero_add] at hat
          obtain ⟨c0, c1, c2⟩ := hat
          cases nb with
          | true =>
            go_wp2
            go_roundw
            case rel => exact ⟨k + 1, by omega, by go_num, by rw [HN.out]; rfl, HB.out.alloc HB.out.size _⟩
            case measure => simp [intOf]; omega
          | false =>
            by_cases h20 : x = 20
            · subst h20
              go_wp2
              go_roundw
              case rel => exact ⟨k + 1, by omega, by go_num, by rw [HN.out]; rfl, HB.out.alloc HB.out.size _⟩
              case measure => simp [intOf]; omega
            · by_cases h21 : x = 21
              · subst h21
                go_wp2
                go_roundw
                case rel => exact ⟨k + 1, by omega, by go_num, by rw [HN.out]; rfl, HB.out.alloc HB.out.size _⟩
                case measure => simp [intOf]; omega
              · have HX : Hid (isH x = false) := by
                  unfold Hid isH
                  simp [h20, h21]
                go_wp2
                go_roundw
                case rel => exact ⟨k + 1, by omega, by go_num, by rw [HN.out, HX.out]; first | rfl | simp [h20, h21], HB.out.alloc HB.out.size _⟩
                case measure => simp [intOf]; omega
        · have hkl : k = L.length := by omega
          have HK : Hid ((L.take k).any (fun x => isH x.1) = H) := by unfold Hid; rw [hkl, List.take_length]; exact HH.out
          rw [HK.out]
          have hhh : (H == H) = true := by simp
          go_wp2
          go_ret
          exact ⟨by first | rfl | simp, HWB.out _ HB.out⟩

theorem types_walk (a : Option Addr) (n cap : Nat) (w : World) (hb : Bys w a n w.heap.size) (h : Tabs w ∧ Pows w ∧ Errs w) :
    Calls Tryd.prog 3 #[.slice a n cap] w fun e w' => e = .returned (.bool true) ∧ Below w.heap.size w w' := types_law a n cap w hb h.1 h.2.2 h.2.1

end Go.Proofs.YtebendaiokchdaaDoor
