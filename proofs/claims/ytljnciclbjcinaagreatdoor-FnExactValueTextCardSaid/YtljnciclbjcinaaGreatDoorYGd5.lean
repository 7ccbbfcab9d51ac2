/-
  Which rows of nodes are types: the walk of the specification.
-/
import Derived.Test.YtljnciclbjcinaaGreatDoorYGd4
namespace Go.Proofs.YtljnciclbjcinaaGreatDoor
open Go.ChangeShapes Go.WideShapes Go.ChangeAt Go.RowKit

set_option maxRecDepth 100000 in
set_option maxHeartbeats 6400000 in
theorem specGood (a : Option Addr) (b off cap : Nat) (L : List Nd) (w : World) (ha : Hid (L ≠ [] → a = some ⟨b, off, none⟩ ∧ b < w.heap.size)) (hL : Hid (ndAt w b off L)) (hlen : L.length ≤ 1048576) :
    Calls Tryz.prog 29 #[.slice a L.length cap] w fun e w' => e = .returned (.bool (goodT L)) ∧ Below w.heap.size w w' := by
  obtain ⟨R, hR⟩ : ∃ R, Hid (goodT L = R) := ⟨_, rfl⟩
  rw [hR.out]
  obtain ⟨I, hI⟩ : ∃ I, Hid ((decide ((1 : Int) ≤ (L.length : Int)) && decide ((L.length : Int) ≤ 40)) = I) := ⟨_, rfl⟩
  cases I with
  | false =>
    obtain rfl : R = false := by
      rw [← hR.out]; unfold goodT
      have h := hI.out
      have : (decide (1 ≤ L.length) && decide (L.length ≤ 40)) = false := by
        simp at h ⊢; omega
      rw [this]; simp
    go_enter Tryz.func29, Tryz.ntmps29
    go_wp2_with (go_at_call 48; refine (in_eq _ _ _ _ (by assumption) _).mono ?_; rintro e w1 ⟨rfl, hw⟩; obtain rfl := hw.symm)
    go_ret
    exact ⟨rfl, Below.refl _ _⟩
  | true =>
    have h1 : 1 ≤ L.length ∧ L.length ≤ 40 := by have h := hI.out; simp at h; omega
    obtain ⟨h1, h40⟩ := h1
    obtain ⟨rfl, hb⟩ := ha.out (fun h => by simp [h] at h1)
    have HC : Hid (∀ j, j < L.length → w.cell? ⟨b, off + j * 3 + 2, none⟩ = some (.int .i64 (upAt L j))) := fun j hj => by rw [upAt_get L j hj]; exact (hL.out j hj).2.2
    go_enter Tryz.func29, Tryz.ntmps29
    go_wp2_with (go_at_call 48; refine (in_eq _ _ _ _ (by assumption) _).mono ?_; rintro e w1 ⟨rfl, hw⟩; obtain rfl := hw.symm)
    go_loopw [19] (fun i wr => ∃ k : Nat, k ≤ L.length ∧ i = .int .i64 (k : Int) ∧ Hid (nodesOk L k = true) ∧ Hid (k = 0 ∨ ∃ s, stk (upAt L) (k - 1) = some s) ∧ Below w.heap.size w wr) (fun i _ => L.length - (intOf i).toNat)
    case atStart => exact ⟨0, by omega, rfl, rfl, Or.inl rfl, Below.refl _ _⟩
    case round =>
      obtain ⟨k, hk, rfl, hN, hS, hnx⟩ := hrel
      have hsz := hnx.size
      by_cases hlt : k < L.length
      · have hc := hL.out k hlt
        obtain ⟨x, hx⟩ : ∃ x, x = L[k] := ⟨_, rfl⟩
        rw [← hx] at hc
        have HG : Hid (L.getD k (0, 0, -1) = x) := by unfold Hid; rw [List.getD_eq_getElem?_getD, List.getElem?_eq_getElem hlt]; exact hx.symm
        have HV : Hid (upAt L k = x.2.2) := by unfold Hid; rw [hx]; exact upAt_get L k hlt
        clear hx
        obtain ⟨x, y, z⟩ := x
        simp only at hc HV
        have hc0 : wr.cell? ⟨b, off + k * 3, none⟩ = some (.int .i64 x) := (hnx.cell (by exact hb)).trans hc.1
        have hc1 : wr.cell? ⟨b, off + k * 3 + 1, none⟩ = some (.int .i64 y) := (hnx.cell (by exact hb)).trans hc.2.1
        have hc2 : wr.cell? ⟨b, off + k * 3 + 2, none⟩ = some (.int .i64 z) := (hnx.cell (by exact hb)).trans hc.2.2
        clear hc
        obtain ⟨bk, hbk⟩ : ∃ A, ((k : Int) == 0) = A := ⟨_, rfl⟩
        obtain ⟨bz, hbz⟩ : ∃ A, (z == -1) = A := ⟨_, rfl⟩
        obtain ⟨A2, hA2⟩ : ∃ A, Hid ((decide ((-1 : Int) ≤ z) && decide (z ≤ (k : Int) - 1)) = A) := ⟨_, rfl⟩
        obtain ⟨A3, hA3⟩ : ∃ A, Hid ((decide ((1 : Int) ≤ x) && decide (x ≤ 21)) = A) := ⟨_, rfl⟩
        by_cases hbad : bk ≠ bz ∨ A2 = false ∨ A3 = false
        · obtain rfl : R = false := by
            rw [← hR.out]
            by_cases h3 : A3 = false
            · refine goodT_bad hlt (Or.inr ?_)
              rw [HG.out]
              unfold nodeOk
              have := hA3.out
              rw [h3] at this
              simp only [this, Bool.false_and]
            · refine goodT_bad hlt (Or.inl (node_out ?_ hS.out))
              rw [HV.out]
              intro hz
              have h2 : bk ≠ bz ∨ A2 = false := by
                rcases hbad with h | h | h
                · exact Or.inl h
                · exact Or.inr h
                · exact absurd h h3
              rcases h2 with h2 | h2
              · apply h2
                rw [← hbk, ← hbz]
                rcases hz with ⟨rfl, rfl⟩ | ⟨h0, h1, _⟩
                · rfl
                · have e1 : ((k : Int) == 0) = false := by simp; omega
                  have e2 : (z == -1) = false := by simp; omega
                  rw [e1, e2]
              · have := hA2.out
                rw [h2] at this
                simp at this
                omega
          cases bk <;> cases bz <;> cases A2 <;> cases A3
          all_goals first
            | (exfalso; simp at hbad; done)
            | (clear hbad
               go_wp2_with (go_at_call 48; refine (in_eq _ _ _ _ (by assumption) _).mono ?_; rintro e w1 ⟨rfl, hw⟩; obtain rfl := hw.symm)
               go_ret
               exact ⟨rfl, hnx.alloc hnx.size _⟩)
        · have hg : bk = bz ∧ A2 = true ∧ A3 = true := by
            cases bk <;> cases bz <;> cases A2 <;> cases A3 <;> simp_all
          obtain ⟨hkz, rfl, rfl⟩ := hg
          clear hbad
          have hz : (k = 0 ∧ z = -1) ∨ (0 < k ∧ 0 ≤ z ∧ z ≤ (k : Int) - 1) := by
            have h2 := hA2.out
            simp at h2
            rw [← hbk, ← hbz] at hkz
            by_cases h0 : k = 0
            · subst h0
              left
              simp at hkz
              exact ⟨rfl, by simpa using hkz⟩
            · right
              have : ((k : Int) == 0) = false := by simp; omega
              rw [this] at hkz
              have : ¬ z = -1 := by simpa using hkz.symm
              omega
          subst hkz
          obtain ⟨P, t, q, ht1, ht2, ht3, hP0, hP1, hq1, hq2, hq3, hq9, hst⟩ := node_facts hlt (by rw [HV.out]; exact hz) hS.out
          rw [HV.out] at hP1
          have HP : Hid ((bk = true ∧ P = true) ∨ (bk = false ∧ P = decide ((pops z t).length ≠ 0))) := by
            by_cases h0 : k = 0
            · left; exact ⟨by rw [← hbk, h0]; rfl, (hP0 h0).1⟩
            · right; exact ⟨by rw [← hbk]; simp; omega, hP1 (by omega)⟩
          have HT1 : Hid (PathE (upAt L) t) := ht1
          have HT2 : Hid (∀ x ∈ t, x < L.length) := ht2
          have HT3 : Hid (hdY t = (k : Int) - 1) := ht3
          have HQ1 : Hid (Path (upAt L) q) := hq1
          have HQ2 : Hid (∀ x ∈ q, x < L.length) := hq2
          have HQ3 : Hid (hdY q = (k : Int)) := hq3
          have HST : Hid ((stk (upAt L) k).isSome = (P && decide (q.length ≤ 8))) := hst
          clear ht1 ht2 ht3 hP0 hP1 hq1 hq2 hq3 hst hz
          have hnxa := fun o => hnx.alloc hnx.size o
          obtain ⟨g, hg⟩ : ∃ g, wr.heap.size = g := ⟨_, rfl⟩
          have hgw : w.heap.size ≤ g := by omega
          have HO : Hid (nodeOk (x, y, z) ((kidsOf L k).length : Int) = true → stk (upAt L) k ≠ none → nodesOk L (k + 1) = true ∧ (k + 1 = 0 ∨ ∃ s, stk (upAt L) (k + 1 - 1) = some s)) := fun h1 h2 => by
            refine ⟨by rw [nodesOk_succ, hN.out, HG.out, h1]; rfl, Or.inr ?_⟩
            rw [show k + 1 - 1 = k by omega]
            cases e : stk (upAt L) k with
            | none => exact absurd e h2
            | some s => exact ⟨s, rfl⟩
          have HB1 : Hid (stk (upAt L) k = none → R = false) := fun h => by rw [← hR.out]; exact goodT_bad hlt (Or.inl h)
          have HB2 : Hid (nodeOk (x, y, z) ((kidsOf L k).length : Int) = false → R = false) := fun h => by rw [← hR.out]; exact goodT_bad hlt (Or.inr (by rw [HG.out]; exact h))
          go_wp2_with (go_at_call 48; refine (in_eq _ _ _ _ (by assumption) _).mono ?_; rintro e w1 ⟨rfl, hw⟩; obtain rfl := hw.symm)
          go_loopw [5, 6] (fun ar at_ wx => ∃ (t' : List Nat) (A : Bool), ar = .bool A ∧ at_ = .int .i64 (hdY t') ∧ Hid (PathE (upAt L) t') ∧ Hid (∀ x ∈ t', x < L.length) ∧ Hid ((A = true ∧ P = true) ∨ (A = false ∧ P = decide ((pops z t').length ≠ 0))) ∧
            wx.cell? ⟨g, 0, none⟩ = some (.int .i64 x) ∧ wx.cell? ⟨g, 1, none⟩ = some (.int .i64 y) ∧ wx.cell? ⟨g, 2, none⟩ = some (.int .i64 z) ∧ g < wx.heap.size ∧ Below w.heap.size w wx) (fun _ at_ _ => (intOf at_ + 1).toNat)
          case atStart => exact ⟨t, bk, rfl, by rw [HT3.out], HT1, HT2, HP, newCell hg.symm rfl, newCell hg.symm rfl, newCell hg.symm rfl, by simp [hg], hnxa _⟩
          case round =>
            clear hnxa hc0 hc1 hc2 hnx hsz hg HP HT1 HT2 HT3
            obtain ⟨t', A, rfl, rfl, hp, hm, hA, d0, d1, d2, hgl, hnx⟩ := hrel
            by_cases hgo : A = false ∧ t' ≠ []
            · obtain ⟨rfl, hne⟩ := hgo
              match t', hp, hm, hA, hne with
              | j :: r, hp, hm, hA, _ =>
                obtain ⟨p1, p2, p3⟩ := path_step (hp.out.resolve_left (by simp))
                have hjl := hm.out j (by simp)
                have hcj : wr.cell? ⟨b, off + j * 3 + 2, none⟩ = some (.int .i64 (hdY r)) := by rw [← p2]; exact (hnx.cell (by exact hb)).trans (HC.out j hjl)
                have hh : hdY (j :: r) = (j : Int) := rfl
                rw [hh]
                obtain ⟨B, hB⟩ : ∃ B, ((j : Int) == z) = B := ⟨_, rfl⟩
                have HA : Hid ((B = true ∧ P = true) ∨ (B = false ∧ P = decide ((pops z r).length ≠ 0))) := by
                  have hA := hA.out
                  simp at hA
                  cases B with
                  | true =>
                    left
                    have : (j : Int) = z := by simpa using hB
                    rw [pops_cons_eq this] at hA
                    exact ⟨rfl, by simpa using hA⟩
                  | false =>
                    right
                    have : ¬ (j : Int) = z := by simpa using hB
                    rw [pops_cons_ne this] at hA
                    exact ⟨rfl, by simpa using hA⟩
                have hge := hdY_ge r
                have HP1 : Hid (PathE (upAt L) r) := p1
                have HP3 : Hid (hdY r < (j : Int)) := p3
                have HGE : Hid (-1 ≤ hdY r) := hge
                clear p1 p2 p3 hge hh hA
                go_wp2
                go_roundw
                case rel => exact ⟨r, B, rfl, rfl, HP1, fun x hx => hm.out x (List.mem_cons_of_mem _ hx), HA, d0, d1, d2, hgl, hnx⟩
                case measure =>
                  have h1 := HP3.out
                  have h2 := HGE.out
                  simp only [intOf]
                  omega
            · have hPA : A = P := by
                have hA := hA.out
                rcases hA with ⟨h1, h2⟩ | ⟨h1, h2⟩
                · rw [h1, h2]
                · have ht : t' = [] := Classical.byContradiction fun h => hgo ⟨h1, h⟩
                  subst ht
                  rw [h1, h2]; simp [pops]
              subst hPA
              obtain ⟨z0, hz0⟩ : ∃ z0, decide (0 ≤ hdY t') = z0 := ⟨_, rfl⟩
              have hx : z0 = false ∨ (z0 = true ∧ A = true) := by
                cases z0 with
                | false => exact Or.inl rfl
                | true =>
                  right
                  refine ⟨rfl, ?_⟩
                  cases A with
                  | true => rfl
                  | false =>
                    exfalso
                    have ht : t' = [] := Classical.byContradiction fun h => hgo ⟨rfl, h⟩
                    subst ht
                    simp [hdY] at hz0
              clear hgo hA hp hm
              rcases hx with rfl | ⟨rfl, rfl⟩
              · go_wp2
                go_loopw [7, 8] (fun dp at_ wx => ∃ (t' : List Nat) (n : Nat), dp = .int .i64 (n : Int) ∧ at_ = .int .i64 (hdY t') ∧ n + t'.length = q.length ∧ Hid (PathE (upAt L) t') ∧ Hid (∀ x ∈ t', x < L.length) ∧
                  wx.cell? ⟨g, 0, none⟩ = some (.int .i64 x) ∧ wx.cell? ⟨g, 1, none⟩ = some (.int .i64 y) ∧ wx.cell? ⟨g, 2, none⟩ = some (.int .i64 z) ∧ g < wx.heap.size ∧ Below w.heap.size w wx) (fun _ at_ _ => (intOf at_ + 1).toNat)
                case atStart => exact ⟨q, 0, rfl, by rw [HQ3.out], by omega, Or.inr HQ1.out, HQ2, d0, d1, d2, hgl, hnx⟩
                case round =>
                  clear d0 d1 d2 hgl hnx hz0
                  obtain ⟨t'', n, rfl, rfl, hn, hp, hm, d0, d1, d2, hgl, hnx⟩ := hrel
                  match t'', hn, hp, hm with
                  | j :: r, hn, hp, hm =>
                    obtain ⟨p1, p2, p3⟩ := path_step (hp.out.resolve_left (by simp))
                    have hjl := hm.out j (by simp)
                    have hcj : wr.cell? ⟨b, off + j * 3 + 2, none⟩ = some (.int .i64 (hdY r)) := by rw [← p2]; exact (hnx.cell (by exact hb)).trans (HC.out j hjl)
                    have hh : hdY (j :: r) = (j : Int) := rfl
                    rw [hh]
                    have hn2 : n + 1 + r.length = q.length := by simp only [List.length_cons] at hn; omega
                    have HP1 : Hid (PathE (upAt L) r) := p1
                    have HP3 : Hid (hdY r < (j : Int)) := p3
                    have HGE : Hid (-1 ≤ hdY r) := hdY_ge r
                    clear p1 p2 p3 hh hn
                    go_wp2
                    go_roundw
                    case rel => exact ⟨r, n + 1, by go_num, rfl, hn2, HP1, fun x hx => hm.out x (List.mem_cons_of_mem _ hx), d0, d1, d2, hgl, hnx⟩
                    case measure =>
                      have h1 := HP3.out
                      have h2 := HGE.out
                      simp only [intOf]
                      omega
                  | [], hn, hp, hm =>
                    obtain rfl : n = q.length := by simpa using hn
                    have hh : hdY [] = -1 := rfl
                    rw [hh]
                    clear hh hn hp hm
                    obtain ⟨s4, hs4⟩ : ∃ s4, shp4 x = s4 := ⟨_, rfl⟩
                    have H4 := specShape4 x
                    rw [hs4] at H4
                    obtain ⟨lo, hi, fr, to⟩ := s4
                    simp only at H4
                    have HS4 : Hid (shp4 x = (lo, hi, fr, to)) := hs4
                    clear hs4
                    cases A with
                    | false =>
                      have SN : Hid (stk (upAt L) k = none) := by
                        have h := HST.out
                        simp at h
                        exact h
                      obtain rfl : R = false := HB1.out SN.out
                      go_wp2_with (go_at_call 49; refine (H4 _).mono ?_; rintro e w1 ⟨rfl, hw⟩; obtain rfl := hw.symm)
                      go_ret
                      exact ⟨rfl, hnx⟩
                    | true =>
                      by_cases h8 : q.length ≤ 8
                      · have SY : Hid (stk (upAt L) k ≠ none) := by
                          have h := HST.out
                          rw [decide_eq_true h8] at h
                          intro e
                          rw [e] at h
                          simp at h
                        have n8 : ¬ (8 : Int) < q.length := by omega
                        have HQ := specParts b off cap L wr (Nat.lt_of_lt_of_le hb hnx.size) (hL.out.below hnx hb) (by omega) k hlt
                        obtain ⟨c, hc⟩ : ∃ c, (kidsOf L k).length = c := ⟨_, rfl⟩
                        have hcl : c ≤ 40 := by rw [← hc]; exact Nat.le_trans (kids_le L k) h40
                        rw [hc] at HQ HO HB2
                        obtain ⟨B1, hB1⟩ : ∃ B, Hid ((decide (lo ≤ (c : Int)) && decide ((c : Int) ≤ hi)) = B) := ⟨_, rfl⟩
                        obtain ⟨B2, hB2⟩ : ∃ B, Hid ((decide (fr ≤ y) && decide (y ≤ to)) = B) := ⟨_, rfl⟩
                        have HN : Hid (nodeOk (x, y, z) (c : Int) = (B1 && B2)) := by
                          unfold Hid nodeOk
                          rw [HS4.out, hA3.out, ← hB1.out, ← hB2.out]
                          simp only [Bool.true_and, Bool.and_assoc]
                        cases B1 with
                        | false =>
                          obtain rfl : R = false := HB2.out HN.out
                          go_wp2_with (go_at_call 49; refine (H4 _).mono ?_; rintro e w1 ⟨rfl, hw⟩; obtain rfl := hw.symm)
                          refine HQ.mono ?_
                          rintro e w2 ⟨v, rfl, hown, hb2⟩
                          clear HQ
                          obtain ⟨a', c', rfl⟩ := ownsRow_shape hown
                          go_wp2_with (go_at_call 48; refine (in_eq _ _ _ _ (by assumption) _).mono ?_; rintro e w1 ⟨rfl, hw⟩; obtain rfl := hw.symm)
                          go_ret
                          exact ⟨rfl, below2 hnx hb2⟩
                        | true =>
                          go_wp2_with (go_at_call 49; refine (H4 _).mono ?_; rintro e w1 ⟨rfl, hw⟩; obtain rfl := hw.symm)
                          refine HQ.mono ?_
                          rintro e w2 ⟨v, rfl, hown, hb2⟩
                          clear HQ
                          have d1' := keepCell hb2 hgl d1
                          have hnx2 := below2 hnx hb2
                          obtain ⟨a', c', rfl⟩ := ownsRow_shape hown
                          cases B2 with
                          | false =>
                            obtain rfl : R = false := HB2.out HN.out
                            go_wp2_with (go_at_call 48; refine (in_eq _ _ _ _ (by assumption) _).mono ?_; rintro e w1 ⟨rfl, hw⟩; obtain rfl := hw.symm)
                            go_ret
                            exact ⟨rfl, hnx2⟩
                          | true =>
                            obtain ⟨o1, o2⟩ := HO.out HN.out SY.out
                            have O1 : Hid (nodesOk L (k + 1) = true) := o1
                            have O2 : Hid (k + 1 = 0 ∨ ∃ s, stk (upAt L) (k + 1 - 1) = some s) := o2
                            clear o1 o2
                            go_wp2_with (go_at_call 48; refine (in_eq _ _ _ _ (by assumption) _).mono ?_; rintro e w1 ⟨rfl, hw⟩; obtain rfl := hw.symm)
                            go_roundw
                            case rel => exact ⟨k + 1, by omega, by go_num, O1, O2, hnx2⟩
                            case measure => simp [intOf]; omega
                      · have SN : Hid (stk (upAt L) k = none) := by
                          have h := HST.out
                          rw [decide_eq_false h8] at h
                          simp at h
                          exact h
                        have n8 : (8 : Int) < q.length := by omega
                        obtain rfl : R = false := HB1.out SN.out
                        go_wp2_with (go_at_call 49; refine (H4 _).mono ?_; rintro e w1 ⟨rfl, hw⟩; obtain rfl := hw.symm)
                        go_ret
                        exact ⟨rfl, hnx⟩
              · go_wp2
                go_loopw [7, 8] (fun dp at_ wx => ∃ (t' : List Nat) (n : Nat), dp = .int .i64 (n : Int) ∧ at_ = .int .i64 (hdY t') ∧ n + t'.length = q.length ∧ Hid (PathE (upAt L) t') ∧ Hid (∀ x ∈ t', x < L.length) ∧
                  wx.cell? ⟨g, 0, none⟩ = some (.int .i64 x) ∧ wx.cell? ⟨g, 1, none⟩ = some (.int .i64 y) ∧ wx.cell? ⟨g, 2, none⟩ = some (.int .i64 z) ∧ g < wx.heap.size ∧ Below w.heap.size w wx) (fun _ at_ _ => (intOf at_ + 1).toNat)
                case atStart => exact ⟨q, 0, rfl, by rw [HQ3.out], by omega, Or.inr HQ1.out, HQ2, d0, d1, d2, hgl, hnx⟩
                case round =>
                  clear d0 d1 d2 hgl hnx hz0
                  obtain ⟨t'', n, rfl, rfl, hn, hp, hm, d0, d1, d2, hgl, hnx⟩ := hrel
                  match t'', hn, hp, hm with
                  | j :: r, hn, hp, hm =>
                    obtain ⟨p1, p2, p3⟩ := path_step (hp.out.resolve_left (by simp))
                    have hjl := hm.out j (by simp)
                    have hcj : wr.cell? ⟨b, off + j * 3 + 2, none⟩ = some (.int .i64 (hdY r)) := by rw [← p2]; exact (hnx.cell (by exact hb)).trans (HC.out j hjl)
                    have hh : hdY (j :: r) = (j : Int) := rfl
                    rw [hh]
                    have hn2 : n + 1 + r.length = q.length := by simp only [List.length_cons] at hn; omega
                    have HP1 : Hid (PathE (upAt L) r) := p1
                    have HP3 : Hid (hdY r < (j : Int)) := p3
                    have HGE : Hid (-1 ≤ hdY r) := hdY_ge r
                    clear p1 p2 p3 hh hn
                    go_wp2
                    go_roundw
                    case rel => exact ⟨r, n + 1, by go_num, rfl, hn2, HP1, fun x hx => hm.out x (List.mem_cons_of_mem _ hx), d0, d1, d2, hgl, hnx⟩
                    case measure =>
                      have h1 := HP3.out
                      have h2 := HGE.out
                      simp only [intOf]
                      omega
                  | [], hn, hp, hm =>
                    obtain rfl : n = q.length := by simpa using hn
                    have hh : hdY [] = -1 := rfl
                    rw [hh]
                    clear hh hn hp hm
                    obtain ⟨s4, hs4⟩ : ∃ s4, shp4 x = s4 := ⟨_, rfl⟩
                    have H4 := specShape4 x
                    rw [hs4] at H4
                    obtain ⟨lo, hi, fr, to⟩ := s4
                    simp only at H4
                    have HS4 : Hid (shp4 x = (lo, hi, fr, to)) := hs4
                    clear hs4
                    by_cases h8 : q.length ≤ 8
                    · have SY : Hid (stk (upAt L) k ≠ none) := by
                        have h := HST.out
                        rw [decide_eq_true h8] at h
                        intro e
                        rw [e] at h
                        simp at h
                      have n8 : ¬ (8 : Int) < q.length := by omega
                      have HQ := specParts b off cap L wr (Nat.lt_of_lt_of_le hb hnx.size) (hL.out.below hnx hb) (by omega) k hlt
                      obtain ⟨c, hc⟩ : ∃ c, (kidsOf L k).length = c := ⟨_, rfl⟩
                      have hcl : c ≤ 40 := by rw [← hc]; exact Nat.le_trans (kids_le L k) h40
                      rw [hc] at HQ HO HB2
                      obtain ⟨B1, hB1⟩ : ∃ B, Hid ((decide (lo ≤ (c : Int)) && decide ((c : Int) ≤ hi)) = B) := ⟨_, rfl⟩
                      obtain ⟨B2, hB2⟩ : ∃ B, Hid ((decide (fr ≤ y) && decide (y ≤ to)) = B) := ⟨_, rfl⟩
                      have HN : Hid (nodeOk (x, y, z) (c : Int) = (B1 && B2)) := by
                        unfold Hid nodeOk
                        rw [HS4.out, hA3.out, ← hB1.out, ← hB2.out]
                        simp only [Bool.true_and, Bool.and_assoc]
                      cases B1 with
                      | false =>
                        obtain rfl : R = false := HB2.out HN.out
                        go_wp2_with (go_at_call 49; refine (H4 _).mono ?_; rintro e w1 ⟨rfl, hw⟩; obtain rfl := hw.symm)
                        refine HQ.mono ?_
                        rintro e w2 ⟨v, rfl, hown, hb2⟩
                        clear HQ
                        obtain ⟨a', c', rfl⟩ := ownsRow_shape hown
                        go_wp2_with (go_at_call 48; refine (in_eq _ _ _ _ (by assumption) _).mono ?_; rintro e w1 ⟨rfl, hw⟩; obtain rfl := hw.symm)
                        go_ret
                        exact ⟨rfl, below2 hnx hb2⟩
                      | true =>
                        go_wp2_with (go_at_call 49; refine (H4 _).mono ?_; rintro e w1 ⟨rfl, hw⟩; obtain rfl := hw.symm)
                        refine HQ.mono ?_
                        rintro e w2 ⟨v, rfl, hown, hb2⟩
                        clear HQ
                        have d1' := keepCell hb2 hgl d1
                        have hnx2 := below2 hnx hb2
                        obtain ⟨a', c', rfl⟩ := ownsRow_shape hown
                        cases B2 with
                        | false =>
                          obtain rfl : R = false := HB2.out HN.out
                          go_wp2_with (go_at_call 48; refine (in_eq _ _ _ _ (by assumption) _).mono ?_; rintro e w1 ⟨rfl, hw⟩; obtain rfl := hw.symm)
                          go_ret
                          exact ⟨rfl, hnx2⟩
                        | true =>
                          obtain ⟨o1, o2⟩ := HO.out HN.out SY.out
                          have O1 : Hid (nodesOk L (k + 1) = true) := o1
                          have O2 : Hid (k + 1 = 0 ∨ ∃ s, stk (upAt L) (k + 1 - 1) = some s) := o2
                          clear o1 o2
                          go_wp2_with (go_at_call 48; refine (in_eq _ _ _ _ (by assumption) _).mono ?_; rintro e w1 ⟨rfl, hw⟩; obtain rfl := hw.symm)
                          go_roundw
                          case rel => exact ⟨k + 1, by omega, by go_num, O1, O2, hnx2⟩
                          case measure => simp [intOf]; omega
                    · have SN : Hid (stk (upAt L) k = none) := by
                        have h := HST.out
                        rw [decide_eq_false h8] at h
                        simp at h
                        exact h
                      have n8 : (8 : Int) < q.length := by omega
                      obtain rfl : R = false := HB1.out SN.out
                      go_wp2_with (go_at_call 49; refine (H4 _).mono ?_; rintro e w1 ⟨rfl, hw⟩; obtain rfl := hw.symm)
                      go_ret
                      exact ⟨rfl, hnx⟩
      · obtain rfl : k = L.length := by omega
        obtain rfl : R = true := by
          rw [← hR.out]
          obtain ⟨s, hs⟩ := hS.out.resolve_left (by omega)
          exact goodT_yes h1 h40 hs hN.out
        go_wp2
        go_ret
        exact ⟨rfl, hnx⟩

end Go.Proofs.YtljnciclbjcinaaGreatDoor
