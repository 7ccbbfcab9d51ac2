/-
  Whether a value fits a type: the program's side, rows of parts.
-/
import Derived.Test.YtljnciclbjcinaaGreatDoorVC
import Derived.Test.YtljnciclbjcinaaGreatDoorYFl1
import Derived.Test.YtljnciclbjcinaaGreatDoorQPick
namespace Go.Proofs.YtljnciclbjcinaaGreatDoor
open Go.ChangeShapes Go.WideShapes Go.ChangeAt Go.RowKit

/-- Whether node v of V is a value of node k of L. -/
def fitM (L : List Nd) (V : List Vn) : Nat → Nat → Nat → Bool
  | 0, _, _ => false
  | f + 1, k, v => nOk (kdAt L k) (nAt L k) (kidsOf L k).length (vnAt V v) && tOk (kdAt L k) (vtAt V v) &&
      (decide ((tk (kdAt L k) (kidsOf L k) (vnAt V v) (kV V v).length).length = (kV V v).length) && ((tk (kdAt L k) (kidsOf L k) (vnAt V v) (kV V v).length).zip (kV V v)).all fun p => fitM L V f p.1 p.2)
def fitL (L : List Nd) (V : List Vn) (f : Nat) (ks vs : List Nat) : Bool := decide (ks.length = vs.length) && (ks.zip vs).all fun p => fitM L V f p.1 p.2
theorem fitM_succ (L : List Nd) (V : List Vn) (f k v : Nat) : fitM L V (f + 1) k v = (nOk (kdAt L k) (nAt L k) (kidsOf L k).length (vnAt V v) && tOk (kdAt L k) (vtAt V v) && fitL L V f (tk (kdAt L k) (kidsOf L k) (vnAt V v) (kV V v).length) (kV V v)) := rfl

theorem all_zip_succ {ks vs : List Nat} {p : Nat × Nat → Bool} {m : Nat} (h : m < ks.length) (h' : m < vs.length) : ((ks.zip vs).take (m + 1)).all p = (((ks.zip vs).take m).all p && p (ks[m], vs[m])) := by
  have hz : m < (ks.zip vs).length := by rw [List.length_zip]; omega
  rw [List.take_succ_eq_append_getElem hz, List.all_append, List.getElem_zip]
  simp
theorem all_zip_bad {ks vs : List Nat} {p : Nat × Nat → Bool} {m : Nat} (h : m < ks.length) (h' : m < vs.length) (hp : p (ks[m], vs[m]) = false) : (ks.zip vs).all p = false := by
  have hz : m < (ks.zip vs).length := by rw [List.length_zip]; omega
  rw [List.all_eq_false]
  exact ⟨(ks.zip vs)[m], List.getElem_mem hz, by rw [List.getElem_zip]; simp [hp]⟩

def FitI (L : List Nd) (V : List Vn) (f g k v : Nat) : Prop := ∀ (w : World) (lo hi lo' hi' : Nat) (u z : Int) (sl sl' : Value), RN L lo hi f w k sl → hi ≤ w.heap.size → RV V lo' hi' g w v sl' → hi' ≤ w.heap.size → Hid (BTabs w) → Hid (UTabs w) →
  Calls Tryz.prog 44 #[.agg #[.int .i64 (kdAt L k), .int .i64 (nAt L k), .int .i64 u, sl], .agg #[.int .i64 (vnAt V v), .string (vtAt V v), .int .i64 z, sl']] w fun e w' => e = .returned (.bool (fitM L V f k v)) ∧ Below w.heap.size w w'

set_option maxRecDepth 100000 in
set_option maxHeartbeats 3200000 in
theorem implEqual (L : List Nd) (V : List Vn) (f g : Nat) (ks vs : List Nat) (IH0 : ∀ k ∈ ks, ∀ v ∈ vs, FitI L V f g k v) (w : World) (lo hi lo' hi' : Nat) (sl sl' : Value)
    (h1 : Row4 (fun k => .int .i64 (kdAt L k)) (fun k => .int .i64 (nAt L k)) (fun k => .int .i64 (upAt L k)) (R4 (fun k => .int .i64 (kdAt L k)) (fun k => .int .i64 (nAt L k)) (fun k => .int .i64 (upAt L k)) (kidsOf L) lo hi f) lo hi w ks sl) (hhi : hi ≤ w.heap.size)
    (h2 : Row4 (fun k => .int .i64 (vnAt V k)) (fun k => .string (vtAt V k)) (fun k => .int .i64 (vuAt V k)) (R4 (fun k => .int .i64 (vnAt V k)) (fun k => .string (vtAt V k)) (fun k => .int .i64 (vuAt V k)) (kV V) lo' hi' g) lo' hi' w vs sl') (hhi' : hi' ≤ w.heap.size) (hkl : ks.length ≤ 1000) (hT : Hid (BTabs w)) (hU : Hid (UTabs w)) :
    Calls Tryz.prog 67 #[sl, sl', .func (.func 44) #[] #[]] w fun e w' => e = .returned (.bool (fitL L V f ks vs)) ∧ Below w.heap.size w w' := by
  obtain ⟨a, cap, rfl, _, H1⟩ := h1
  obtain ⟨a', cap', rfl, _, H2⟩ := h2
  have IH : Hid (∀ k ∈ ks, ∀ v ∈ vs, FitI L V f g k v) := IH0
  have K1 : Hid (∀ j (h : j < ks.length), ∃ g off sl', a = some ⟨g, off, none⟩ ∧ lo ≤ g ∧ g < hi ∧
    w.cell? ⟨g, off + j * 4, none⟩ = some (.int .i64 (kdAt L ks[j])) ∧ w.cell? ⟨g, off + j * 4 + 1, none⟩ = some (.int .i64 (nAt L ks[j])) ∧ w.cell? ⟨g, off + j * 4 + 2, none⟩ = some (.int .i64 (upAt L ks[j])) ∧ w.cell? ⟨g, off + j * 4 + 3, none⟩ = some sl' ∧ RN L lo hi f w ks[j] sl') := H1
  have K2 : Hid (∀ j (h : j < vs.length), ∃ gg off sl', a' = some ⟨gg, off, none⟩ ∧ lo' ≤ gg ∧ gg < hi' ∧
    w.cell? ⟨gg, off + j * 4, none⟩ = some (.int .i64 (vnAt V vs[j])) ∧ w.cell? ⟨gg, off + j * 4 + 1, none⟩ = some (.string (vtAt V vs[j])) ∧ w.cell? ⟨gg, off + j * 4 + 2, none⟩ = some (.int .i64 (vuAt V vs[j])) ∧ w.cell? ⟨gg, off + j * 4 + 3, none⟩ = some sl' ∧ RV V lo' hi' g w vs[j] sl') := H2
  clear H1 H2 IH0
  obtain ⟨R, hR⟩ : ∃ R, Hid (fitL L V f ks vs = R) := ⟨_, rfl⟩
  rw [hR.out]
  by_cases hne : ks.length = vs.length
  · have HL : Hid (ks.length = vs.length) := hne
    have HRZ : Hid ((ks.zip vs).all (fun p => fitM L V f p.1 p.2) = R) := by
      unfold Hid; rw [← hR.out]; unfold fitL; simp [hne]
    have hzl : Hid ((ks.zip vs).length = ks.length) := by unfold Hid; rw [List.length_zip]; omega
    obtain ⟨n, hn⟩ : ∃ n, ks.length = n := ⟨_, rfl⟩
    have HN1 : Hid (ks.length = n) := hn
    have HN2 : Hid (vs.length = n) := hne.symm.trans hn
    rw [hn] at hkl hzl ⊢
    rw [← hne, hn] at ⊢
    clear hn hne HL hR
    go_enter Tryz.func67, Tryz.ntmps67
    go_wp2
    go_loopw [17] (fun i wr => ∃ m : Nat, m ≤ n ∧ i = .int .i64 (m : Int) ∧ Hid (((ks.zip vs).take m).all (fun p => fitM L V f p.1 p.2) = true) ∧ Below w.heap.size w wr) (fun i _ => n - (intOf i).toNat)
    case atStart => exact ⟨0, by omega, rfl, by simp [Hid], Below.refl _ _⟩
    case round =>
      obtain ⟨m, hm, rfl, hA, hnx⟩ := hrel
      have hsz := hnx.size
      by_cases hlt : m < n
      · have hm1 : m < ks.length := by rw [HN1.out]; exact hlt
        have hm2 : m < vs.length := by rw [HN2.out]; exact hlt
        obtain ⟨g1, off1, s1, rfl, p1, p2, c0, c1, c2, c3, tr1⟩ := K1.out m hm1
        obtain ⟨g2, off2, s2, rfl, r1, r2, d0, d1, d2, d3, tr2⟩ := K2.out m hm2
        have HC0 := fun (W : World) (hW : Below w.heap.size w W) => IH.out ks[m] (List.getElem_mem hm1) vs[m] (List.getElem_mem hm2) W lo hi lo' hi' (upAt L ks[m]) (vuAt V vs[m]) s1 s2 (R4.below tr1 hW hhi) (Nat.le_trans hhi hW.size) (R4.below tr2 hW hhi') (Nat.le_trans hhi' hW.size) (hT.out.below hW (Nat.le_refl _)) (Utf8Tabs_below hU.out hW)
        have HS : Hid (((ks.zip vs).take (m + 1)).all (fun p => fitM L V f p.1 p.2) = fitM L V f ks[m] vs[m]) := by unfold Hid; rw [all_zip_succ hm1 hm2, hA.out]; rfl
        have HBd : Hid (fitM L V f ks[m] vs[m] = false → R = false) := fun h => by rw [← HRZ.out]; exact all_zip_bad hm1 hm2 h
        obtain ⟨r, hr⟩ : ∃ r, fitM L V f ks[m] vs[m] = r := ⟨_, rfl⟩
        rw [hr] at HS HBd
        obtain ⟨x0, hx0⟩ : ∃ x, kdAt L ks[m] = x := ⟨_, rfl⟩
        obtain ⟨x1, hx1⟩ : ∃ x, nAt L ks[m] = x := ⟨_, rfl⟩
        obtain ⟨x2, hx2⟩ : ∃ x, upAt L ks[m] = x := ⟨_, rfl⟩
        obtain ⟨y0, hy0⟩ : ∃ x, vnAt V vs[m] = x := ⟨_, rfl⟩
        obtain ⟨y1, hy1⟩ : ∃ x, vtAt V vs[m] = x := ⟨_, rfl⟩
        obtain ⟨y2, hy2⟩ : ∃ x, vuAt V vs[m] = x := ⟨_, rfl⟩
        rw [hx0] at c0
        rw [hx1] at c1
        rw [hx2] at c2
        rw [hy0] at d0
        rw [hy1] at d1
        rw [hy2] at d2
        have HC : Hid (∀ W, Below w.heap.size w W → Calls Tryz.prog 44 #[.agg #[.int .i64 x0, .int .i64 x1, .int .i64 x2, s1], .agg #[.int .i64 y0, .string y1, .int .i64 y2, s2]] W fun e w' => e = .returned (.bool r) ∧ Below W.heap.size W w') := fun W hW => by
          have := HC0 W hW
          rw [hx0, hx1, hx2, hy0, hy1, hy2, hr] at this
          exact this
        obtain ⟨sa1, sn1, sc1, rfl⟩ := R4.form tr1
        obtain ⟨sa2, sn2, sc2, rfl⟩ := R4.form tr2
        clear HC0 hx0 hx1 hx2 hy0 hy1 hy2 hr tr1 tr2
        have b0 := keepCell hnx (by omega) c0
        have b1 := keepCell hnx (by omega) c1
        have b2 := keepCell hnx (by omega) c2
        have b3 := keepCell hnx (by omega) c3
        have k0 := fun o => keepCell (hnx.alloc hsz o) (by omega) d0
        have k1 := fun o => keepCell (hnx.alloc hsz o) (by omega) d1
        have k2 := fun o => keepCell (hnx.alloc hsz o) (by omega) d2
        have k3 := fun o => keepCell (hnx.alloc hsz o) (by omega) d3
        have hal : ∀ o1 o2, Below w.heap.size w ((wr.alloc o1).alloc o2) := fun o1 o2 => (hnx.alloc hsz o1).alloc (by simp; omega) o2
        have HAL : Hid (∀ o1 o2, Below w.heap.size w ((wr.alloc o1).alloc o2)) := hal
        have hltI : (m : Int) < (n : Int) := by omega
        clear c0 c1 c2 c3 d0 d1 d2 d3 hal
        go_wp2_with fail
        refine (HC.out _ (HAL.out _ _)).mono ?_
        rintro e w2 ⟨rfl, hb2⟩
        have hfin : Below w.heap.size w w2 := (HAL.out _ _).trans (hb2.mono (HAL.out _ _).size)
        clear HC b0 b1 b2 b3 k0 k1 k2 k3 hb2
        cases r with
        | false =>
          obtain rfl : R = false := HBd.out rfl
          go_wp2
          go_ret
          exact ⟨rfl, hfin⟩
        | true =>
          go_wp2
          go_roundw
          case rel => exact ⟨m + 1, by omega, by go_num, HS, hfin⟩
          case measure => simp [intOf]; omega
      · obtain rfl : m = n := by omega
        have hzz : (ks.zip vs).take m = ks.zip vs := List.take_of_length_le (by rw [hzl.out]; exact Nat.le_refl _)
        obtain rfl : R = true := by rw [← HRZ.out, ← hA.out, hzz]
        have hltI : ¬ (m : Int) < (m : Int) := by omega
        go_wp2
        go_ret
        exact ⟨rfl, hnx⟩
  · obtain rfl : R = false := by rw [← hR.out]; unfold fitL; simp [hne]
    have hneI : ((ks.length : Int) == (vs.length : Int)) = false := by rw [beq_eq_false_iff_ne]; omega
    go_enter Tryz.func67, Tryz.ntmps67
    go_wp2
    go_ret
    exact ⟨rfl, Below.refl _ _⟩

end Go.Proofs.YtljnciclbjcinaaGreatDoor

namespace Go.Proofs.YtljnciclbjcinaaGreatDoor
open Go.ChangeShapes Go.WideShapes Go.ChangeAt Go.RowKit

section
variable {P : Program} {ops : Array Oper} {Q : Exit → Act → World → Prop} {S : World → Prop} {f : Nat} {L : Array Bool} {a : Act} {w : World}
theorem wh_no (i : Nat) (d : Option Tmp) {oi : Oper} (hi : ops[i]? = some oi) (hd : oi.dst = d) (hs : Region.noSelect ops = true) (hf : Region.free .any ops L i = true) (hr : (Region.ready .any ops L).contains i = true)
    (hQ : ∀ c a w, Q (.panic c) (a.put d undef) w → Q (.panic c) a w) (hS : S w) (hw : Region.wanted oi (yielded ops a.tmps) = false)
    (h : WH P ops Q S f (L.setIfInBounds i true) (a.put d undef) w) : WH P ops Q S (f + 1) L a w := by
  subst hd
  exact ⟨wpAnyH_take hi hs hf hr hQ (.inr ⟨hw, rfl⟩) hS h.out⟩
end

/-- All that is good about a node of a good type. -/
theorem gnode {L : List Nd} (h : goodT L = true) {k : Nat} (hk : k < L.length) : (1 ≤ kdAt L k ∧ kdAt L k ≤ 21) ∧ (kdAt L k = 16 → 1 ≤ nAt L k ∧ nAt L k ≤ 32) ∧ (kdAt L k = 19 → 1 ≤ nAt L k ∧ nAt L k ≤ 300) ∧ (kidsOf L k).length ≤ 40 ∧
    (kdAt L k = 13 ∨ kdAt L k = 17 → (kidsOf L k).length = 1) ∧ (kdAt L k = 18 → (kidsOf L k).length = 2) ∧ (kdAt L k ≠ 13 → kdAt L k ≠ 14 → kdAt L k ≠ 15 → kdAt L k ≠ 17 → kdAt L k ≠ 18 → kidsOf L k = []) := by
  have h40 : (kidsOf L k).length ≤ 40 := Nat.le_trans (kids_le L k) (ups_good12 h).2.1
  have hg := good_node h hk
  unfold nodeOk at hg
  simp only [Bool.and_eq_true, decide_eq_true_eq] at hg
  obtain ⟨⟨⟨⟨⟨h1, h2⟩, h3⟩, h4⟩, h5⟩, h6⟩ := hg
  have e1 : (L.getD k (0, 0, -1)).1 = kdAt L k := rfl
  have e2 : (L.getD k (0, 0, -1)).2.1 = nAt L k := rfl
  rw [e1] at h1 h2 h3 h4 h5 h6
  rw [e2] at h5 h6
  refine ⟨⟨h1, h2⟩, fun e => ?_, fun e => ?_, h40, fun e => ?_, fun e => ?_, fun e13 e14 e15 e17 e18 => ?_⟩
  · rw [e] at h5 h6; simp [shp4] at h5 h6; omega
  · rw [e] at h5 h6; simp [shp4] at h5 h6; omega
  · rcases e with e | e <;> (rw [e] at h3 h4; simp [shp4] at h3 h4; omega)
  · rw [e] at h3 h4; simp [shp4] at h3 h4; omega
  · apply List.length_eq_zero_iff.1
    unfold shp4 at h4
    rw [if_neg (by omega), if_neg (by omega), if_neg (by omega)] at h4
    have : ((kidsOf L k).length : Int) ≤ 0 := by
      split at h4
      · exact h4
      · split at h4
        · exact h4
        · split at h4
          · exact h4
          · exact h4
    omega
theorem tkOk_of {L : List Nd} (h : goodT L = true) {k : Nat} (hk : k < L.length) {m : Int} {c : Nat} (hc : c ≤ 100) (hn : nOk (kdAt L k) (nAt L k) (kidsOf L k).length m = true) : tkOk (kdAt L k) (kidsOf L k) m c := by
  obtain ⟨_, _, _, g40, g1, g2, _⟩ := gnode h hk
  unfold nOk at hn
  simp only [Bool.and_eq_true, decide_eq_true_eq] at hn
  obtain ⟨⟨n1, n2⟩, _⟩ := hn
  refine ⟨hc, fun e => g1 (Or.inl e), fun e => ?_, fun e => ?_, g40⟩
  · rcases e with e | e
    · rw [e] at n1 n2
      simp [bdOf] at n1 n2
      omega
    · have := g2 e
      rw [e] at n1 n2
      simp [bdOf, brow] at n1 n2
      omega
  · have := g1 (Or.inr e)
    rw [e] at n1 n2
    simp [bdOf, brow] at n1 n2
    omega

set_option maxRecDepth 100000 in
set_option maxHeartbeats 3200000 in
theorem implFits_step (L : List Nd) (V : List Vn) (hG : goodT L = true) (hV : V.length ≤ 100) (hVs : ∀ x ∈ V, x.2.1.size ≤ 1048576) (f g k v : Nat) (hk : k < L.length) (hv : v < V.length) (IH0 : ∀ k' ∈ kidsOf L k, ∀ v' ∈ kV V v, FitI L V f g k' v') : FitI L V (f + 1) (g + 1) k v := by
  intro w lo hi lo' hi' u z sl sl' hr1 hhi hr2 hhi' hT hU
  obtain ⟨gx, gn, gn9, g40, _, _, gnil⟩ := gnode hG hk
  have hcV : (kV V v).length ≤ 100 := Nat.le_trans (kto_le _ _ _) hV
  have hsz : (vtAt V v).size ≤ 1048576 := by rw [vtAt_get V v hv]; exact hVs _ (List.getElem_mem hv)
  have HN : Hid (∀ W a cap, Below w.heap.size w W → Calls Tryz.prog 58 #[.agg #[.int .i64 (kdAt L k), .int .i64 (nAt L k), .int .i64 u, .slice a (kidsOf L k).length cap], .agg #[.int .i64 (vnAt V v), .string (vtAt V v), .int .i64 z]] W fun e w' => e = .returned (.bool (nOk (kdAt L k) (nAt L k) (kidsOf L k).length (vnAt V v) && tOk (kdAt L k) (vtAt V v))) ∧ Below W.heap.size W w') := fun W a cap hW =>
    implNode12 _ _ u _ z _ a _ cap W gx gn gn9 (by omega) hsz (hT.out.below hW (Nat.le_refl _)) (Utf8Tabs_below hU.out hW)
  have HTK : Hid ((nOk (kdAt L k) (nAt L k) (kidsOf L k).length (vnAt V v) && tOk (kdAt L k) (vtAt V v)) = true → tkOk (kdAt L k) (kidsOf L k) (vnAt V v) (kV V v).length) := fun h => tkOk_of hG hk hcV (by simp at h; exact h.1)
  have hm : ∀ k' ∈ tk (kdAt L k) (kidsOf L k) (vnAt V v) (kV V v).length, (kdAt L k = 13 → (kidsOf L k).length = 1) → k' ∈ kidsOf L k := by
    intro k' hk' h13
    unfold tk at hk'
    split at hk'
    · rename_i e
      have h1 := h13 e
      rw [(List.mem_replicate.1 hk').2, List.getD_eq_getElem?_getD, List.getElem?_eq_getElem (by omega), Option.getD_some]
      exact List.getElem_mem _
    · split at hk'
      · exact hk'
      · split at hk'
        · exact List.mem_of_mem_drop (List.mem_of_mem_take hk')
        · split at hk'
          · exact List.mem_of_mem_take hk'
          · simp at hk'
  have hkl : (tk (kdAt L k) (kidsOf L k) (vnAt V v) (kV V v).length).length ≤ 1000 := by
    unfold tk
    split
    · rw [List.length_replicate]; omega
    · split
      · omega
      · split
        · rw [List.length_take]; omega
        · split
          · rw [List.length_take]; omega
          · simp
  have HEQ : Hid (∀ (W : World) (sl9 : Value), Below w.heap.size w W → Row4 (fun k => .int .i64 (kdAt L k)) (fun k => .int .i64 (nAt L k)) (fun k => .int .i64 (upAt L k)) (R4 (fun k => .int .i64 (kdAt L k)) (fun k => .int .i64 (nAt L k)) (fun k => .int .i64 (upAt L k)) (kidsOf L) (min lo (w.heap.size + 2)) W.heap.size f) (min lo (w.heap.size + 2)) W.heap.size W (tk (kdAt L k) (kidsOf L k) (vnAt V v) (kV V v).length) sl9 → (kdAt L k = 13 → (kidsOf L k).length = 1) →
      Calls Tryz.prog 67 #[sl9, sl', .func (.func 44) #[] #[]] W fun e w' => e = .returned (.bool (fitL L V f (tk (kdAt L k) (kidsOf L k) (vnAt V v) (kV V v).length) (kV V v))) ∧ Below W.heap.size W w') := fun W sl9 hW hrow h13 =>
    implEqual L V f g _ _ (fun k' hk' v' hv' => IH0 k' (hm k' hk' h13) v' hv') W _ _ lo' hi' sl9 sl' hrow (Nat.le_refl _) (Row4.keep (lo' := lo') (hi' := hi') hr2 (Nat.le_refl _) (Nat.le_refl _) (fun g _ h2 => hW.block g (by omega))) (Nat.le_trans hhi' hW.size) hkl (hT.out.below hW (Nat.le_refl _)) (Utf8Tabs_below hU.out hW)
  have HKD : Hid (∀ (W : World) a cap, (kidsOf L k).length ≤ cap → w.heap.size + 2 ≤ W.heap.size → Below w.heap.size w W → Row4 (fun k => .int .i64 (kdAt L k)) (fun k => .int .i64 (nAt L k)) (fun k => .int .i64 (upAt L k)) (R4 (fun k => .int .i64 (kdAt L k)) (fun k => .int .i64 (nAt L k)) (fun k => .int .i64 (upAt L k)) (kidsOf L) lo hi f) lo hi w (kidsOf L k) (.slice a (kidsOf L k).length cap) → tkOk (kdAt L k) (kidsOf L k) (vnAt V v) (kV V v).length →
      Calls Tryz.prog 46 #[.agg #[.int .i64 (kdAt L k), .int .i64 (nAt L k), .int .i64 u, .slice a (kidsOf L k).length cap], .int .i64 (vnAt V v), .int .i64 ((kV V v).length : Int)] W fun e w' => ∃ sl9, e = .returned sl9 ∧ Row4 (fun k => .int .i64 (kdAt L k)) (fun k => .int .i64 (nAt L k)) (fun k => .int .i64 (upAt L k)) (R4 (fun k => .int .i64 (kdAt L k)) (fun k => .int .i64 (nAt L k)) (fun k => .int .i64 (upAt L k)) (kidsOf L) (min lo (w.heap.size + 2)) w'.heap.size f) (min lo (w.heap.size + 2)) w'.heap.size w' (tk (kdAt L k) (kidsOf L k) (vnAt V v) (kV V v).length) sl9 ∧ Below W.heap.size W w') := fun W a cap hcap hWs hW hrow hok => by
    have hrow' := Row4.keep (lo' := lo) (hi' := hi) hrow (Nat.le_refl _) (Nat.le_refl _) (fun g _ h2 => hW.block g (by omega))
    obtain ⟨a9, cap9, e9, _, H9⟩ := hrow'
    simp at e9
    obtain ⟨rfl, rfl⟩ := e9
    refine (implKids L f k W lo hi a cap u (vnAt V v) (kV V v).length hcap H9 (Nat.le_trans hhi hW.size) hok gnil).mono ?_
    rintro e w' ⟨sl9, rfl, hr9, hb9⟩
    exact ⟨sl9, rfl, hr9.keep (by omega) (Nat.le_refl _) (fun _ _ _ => rfl), hb9⟩
  have h13 : Hid (tkOk (kdAt L k) (kidsOf L k) (vnAt V v) (kV V v).length → kdAt L k = 13 → (kidsOf L k).length = 1) := fun h => h.2.1
  rw [fitM_succ]
  obtain ⟨a1, cap1, rfl, hc1, H1⟩ := hr1
  have HROW : Hid (Row4 (fun k => .int .i64 (kdAt L k)) (fun k => .int .i64 (nAt L k)) (fun k => .int .i64 (upAt L k)) (R4 (fun k => .int .i64 (kdAt L k)) (fun k => .int .i64 (nAt L k)) (fun k => .int .i64 (upAt L k)) (kidsOf L) lo hi f) lo hi w (kidsOf L k) (.slice a1 (kidsOf L k).length cap1)) := ⟨a1, cap1, rfl, hc1, H1⟩
  obtain ⟨a2, cap2, rfl, _, _⟩ := hr2
  clear H1 hm hkl gx gn gn9 gnil IH0 hT hU hsz
  obtain ⟨FL, hFL⟩ : ∃ F, fitL L V f (tk (kdAt L k) (kidsOf L k) (vnAt V v) (kV V v).length) (kV V v) = F := ⟨_, rfl⟩
  obtain ⟨NT, hNT⟩ : ∃ F, (nOk (kdAt L k) (nAt L k) (kidsOf L k).length (vnAt V v) && tOk (kdAt L k) (vtAt V v)) = F := ⟨_, rfl⟩
  rw [hFL] at HEQ ⊢
  rw [hNT] at HN HTK ⊢
  obtain ⟨ks, hks⟩ : ∃ ks, tk (kdAt L k) (kidsOf L k) (vnAt V v) (kV V v).length = ks := ⟨_, rfl⟩
  rw [hks] at HEQ HKD
  obtain ⟨x, hx⟩ : ∃ x, kdAt L k = x := ⟨_, rfl⟩
  obtain ⟨y, hy⟩ : ∃ x, nAt L k = x := ⟨_, rfl⟩
  obtain ⟨p, hp⟩ : ∃ x, vnAt V v = x := ⟨_, rfl⟩
  obtain ⟨s, hs⟩ : ∃ x, vtAt V v = x := ⟨_, rfl⟩
  obtain ⟨n1, hn1⟩ : ∃ x, (kidsOf L k).length = x := ⟨_, rfl⟩
  obtain ⟨n2, hn2⟩ : ∃ x, (kV V v).length = x := ⟨_, rfl⟩
  rw [hx, hy, hp, hs, hn1] at HN
  rw [hx, hp, hn2] at HTK h13
  rw [hn1] at h13
  rw [hx, hn1, hn2] at HEQ
  rw [hx, hy, hp, hn1, hn2] at HKD
  rw [hn1] at HROW hc1
  rw [hx, hy, hp, hs, hn1, hn2]
  clear hFL hNT hks hx hy hp hs hn1
  have HC2 : Hid (n2 ≤ 100) := by rw [← hn2]; exact hcV
  clear hcV hn2
  obtain ⟨W, hW⟩ : ∃ W, (w.alloc (.cells #[.int .i64 x, .int .i64 y, .int .i64 u, .slice a1 n1 cap1] 61)).alloc (.cells #[.int .i64 p, .string s, .int .i64 z, .slice a2 n2 cap2] 64) = W := ⟨_, rfl⟩
  have hb : Below w.heap.size w W := by rw [← hW]; exact ((Below.refl _ _).alloc (Nat.le_refl _) _).alloc (by simp) _
  have hWs : w.heap.size + 2 ≤ W.heap.size := by rw [← hW]; simp
  have hS0 : (fun W' : World => W'.heap[w.heap.size]? = some (.cells #[.int .i64 x, .int .i64 y, .int .i64 u, .slice a1 n1 cap1] 61 (0, 0)) ∧ W'.heap[w.heap.size + 1]? = some (.cells #[.int .i64 p, .string s, .int .i64 z, .slice a2 n2 cap2] 64 (0, 0))) W.drew := by
    refine ⟨?_, ?_⟩
    · show W.heap[_]? = _
      rw [← hW]; exact (Below.heap_alloc _ _ _ (by simp)).trans (heap_alloc_new _ _)
    · show W.heap[_]? = _
      rw [← hW]
      have e : w.heap.size + 1 = (w.alloc (.cells #[.int .i64 x, .int .i64 y, .int .i64 u, .slice a1 n1 cap1] 61)).heap.size := by simp
      rw [e]
      exact heap_alloc_new _ _
  have HS : Hid (∀ A B : World, w.heap.size + 2 ≤ A.heap.size → Below A.heap.size A B → (fun W' : World => W'.heap[w.heap.size]? = some (.cells #[.int .i64 x, .int .i64 y, .int .i64 u, .slice a1 n1 cap1] 61 (0, 0)) ∧ W'.heap[w.heap.size + 1]? = some (.cells #[.int .i64 p, .string s, .int .i64 z, .slice a2 n2 cap2] 64 (0, 0))) A → (fun W' : World => W'.heap[w.heap.size]? = some (.cells #[.int .i64 x, .int .i64 y, .int .i64 u, .slice a1 n1 cap1] 61 (0, 0)) ∧ W'.heap[w.heap.size + 1]? = some (.cells #[.int .i64 p, .string s, .int .i64 z, .slice a2 n2 cap2] 64 (0, 0))) B) := fun A B hA hB h => ⟨(hB.block _ (by omega)).trans h.1, (hB.block _ (by omega)).trans h.2⟩
  go_enter Tryz.func44, Tryz.ntmps44
  go_wp2_with fail
  refine wh_begin (fun W' : World => W'.heap[w.heap.size]? = some (.cells #[.int .i64 x, .int .i64 y, .int .i64 u, .slice a1 n1 cap1] 61 (0, 0)) ∧ W'.heap[w.heap.size + 1]? = some (.cells #[.int .i64 p, .string s, .int .i64 z, .slice a2 n2 cap2] 64 (0, 0))) (by kernel_rfl) ?_
  refine wh_take 0 (some 5) (.agg #[.int .i64 x, .int .i64 y, .int .i64 u, .slice a1 n1 cap1]) rfl rfl (by kernel_rfl) (by kernel_rfl) (by kernel_rfl) (fun _ _ _ h => h) hS0 (by rfl) (fun w' hS => by have q0 := (cell_of_block hS.1 0).trans rfl; have q1 := (cell_of_block hS.1 1).trans rfl; have q2 := (cell_of_block hS.1 2).trans rfl; have q3 := (cell_of_block hS.1 3).trans rfl; first | rfl | (go_simp; done)) ?_
  simp only [Act.put, List.setIfInBounds_toArray, List.set_cons_zero, List.set_cons_succ]
  refine wh_take 1 (some 6) (.pointer (some ⟨w.heap.size + 1, 0, none⟩)) rfl rfl (by kernel_rfl) (by kernel_rfl) (by kernel_rfl) (fun _ _ _ h => h) hS0 (by rfl) (fun w' hS => by first | rfl | (go_simp; done)) ?_
  simp only [Act.put, List.setIfInBounds_toArray, List.set_cons_zero, List.set_cons_succ]
  refine wh_take 2 (some 7) (.agg #[.int .i64 p, .string s, .int .i64 z]) rfl rfl (by kernel_rfl) (by kernel_rfl) (by kernel_rfl) (fun _ _ _ h => h) hS0 (by rfl) (fun w' hS => by have q0 := (cell_of_block hS.2 0).trans rfl; have q1 := (cell_of_block hS.2 1).trans rfl; have q2 := (cell_of_block hS.2 2).trans rfl; have q3 := (cell_of_block hS.2 3).trans rfl; first | rfl | (go_simp; done)) ?_
  simp only [Act.put, List.setIfInBounds_toArray, List.set_cons_zero, List.set_cons_succ]
  refine wh_call 3 (some 8) 58 #[.agg #[.int .i64 x, .int .i64 y, .int .i64 u, .slice a1 n1 cap1], .agg #[.int .i64 p, .string s, .int .i64 z]] (by kernel_rfl) rfl rfl (by rfl) (by kernel_rfl) ?_
  refine (HN.out W.drew a1 cap1 hb.drew).mono ?_
  rintro e1 w1 ⟨rfl, B1⟩
  have B1' : Below W.heap.size W w1 := ⟨B1.os, B1.tape, B1.output, B1.size, B1.block⟩
  have hb1 := below2 hb B1'
  have hw1s : w.heap.size + 2 ≤ w1.heap.size := by have := B1'.size; omega
  have hS1 := HS.out W.drew w1 hWs B1 hS0
  refine ⟨_, rfl, hS1, ?_⟩
  simp only [Act.put, List.setIfInBounds_toArray, List.set_cons_zero, List.set_cons_succ]
  refine wh_take 4 (some 9) (.bool NT) rfl rfl (by kernel_rfl) (by kernel_rfl) (by kernel_rfl) (fun _ _ _ h => h) hS1 (by rfl) (fun w' hS => by first | rfl | (go_simp; done)) ?_
  simp only [Act.put, List.setIfInBounds_toArray, List.set_cons_zero, List.set_cons_succ]
  cases NT with
  | false =>
    refine wh_no 5 (some 10) rfl rfl (by kernel_rfl) (by kernel_rfl) (by kernel_rfl) (fun _ _ _ h => h) hS1 (by rfl) ?_
    simp only [Act.put, List.setIfInBounds_toArray, List.set_cons_zero, List.set_cons_succ]
    refine wh_no 6 (some 11) rfl rfl (by kernel_rfl) (by kernel_rfl) (by kernel_rfl) (fun _ _ _ h => h) hS1 (by rfl) ?_
    simp only [Act.put, List.setIfInBounds_toArray, List.set_cons_zero, List.set_cons_succ]
    refine wh_no 7 (some 12) rfl rfl (by kernel_rfl) (by kernel_rfl) (by kernel_rfl) (fun _ _ _ h => h) hS1 (by rfl) ?_
    simp only [Act.put, List.setIfInBounds_toArray, List.set_cons_zero, List.set_cons_succ]
    refine wh_no 8 (some 13) rfl rfl (by kernel_rfl) (by kernel_rfl) (by kernel_rfl) (fun _ _ _ h => h) hS1 (by rfl) ?_
    simp only [Act.put, List.setIfInBounds_toArray, List.set_cons_zero, List.set_cons_succ]
    refine wh_no 9 (some 14) rfl rfl (by kernel_rfl) (by kernel_rfl) (by kernel_rfl) (fun _ _ _ h => h) hS1 (by rfl) ?_
    simp only [Act.put, List.setIfInBounds_toArray, List.set_cons_zero, List.set_cons_succ]
    refine wh_no 10 (some 15) rfl rfl (by kernel_rfl) (by kernel_rfl) (by kernel_rfl) (fun _ _ _ h => h) hS1 (by rfl) ?_
    simp only [Act.put, List.setIfInBounds_toArray, List.set_cons_zero, List.set_cons_succ]
    refine wh_no 11 (some 16) rfl rfl (by kernel_rfl) (by kernel_rfl) (by kernel_rfl) (fun _ _ _ h => h) hS1 (by rfl) ?_
    simp only [Act.put, List.setIfInBounds_toArray, List.set_cons_zero, List.set_cons_succ]
    refine wh_no 12 (some 17) rfl rfl (by kernel_rfl) (by kernel_rfl) (by kernel_rfl) (fun _ _ _ h => h) hS1 (by rfl) ?_
    simp only [Act.put, List.setIfInBounds_toArray, List.set_cons_zero, List.set_cons_succ]
    refine wh_no 13 (some 18) rfl rfl (by kernel_rfl) (by kernel_rfl) (by kernel_rfl) (fun _ _ _ h => h) hS1 (by rfl) ?_
    simp only [Act.put, List.setIfInBounds_toArray, List.set_cons_zero, List.set_cons_succ]
    refine wh_no 14 (some 19) rfl rfl (by kernel_rfl) (by kernel_rfl) (by kernel_rfl) (fun _ _ _ h => h) hS1 (by rfl) ?_
    simp only [Act.put, List.setIfInBounds_toArray, List.set_cons_zero, List.set_cons_succ]
    refine wh_no 15 (some 20) rfl rfl (by kernel_rfl) (by kernel_rfl) (by kernel_rfl) (fun _ _ _ h => h) hS1 (by rfl) ?_
    simp only [Act.put, List.setIfInBounds_toArray, List.set_cons_zero, List.set_cons_succ]
    refine wh_take 16 (some 21) (.bool false) rfl rfl (by kernel_rfl) (by kernel_rfl) (by kernel_rfl) (fun _ _ _ h => h) hS1 (by rfl) (fun w' hS => by first | rfl | (go_simp; done)) ?_
    simp only [Act.put, List.setIfInBounds_toArray, List.set_cons_zero, List.set_cons_succ]
    refine wh_val 17 (some 4) (.bool false) w1 (by kernel_rfl) rfl rfl (by rfl) (by first | rfl | (go_simp; done)) hS1 ?_
    simp only [Act.put, List.setIfInBounds_toArray, List.set_cons_zero, List.set_cons_succ]
    refine wh_done (by kernel_rfl) ?_
    clear hS0 hS1 HS HN HEQ HKD
    go_wp2
    go_ret
    exact ⟨rfl, hb1⟩
  | true =>
    have hok := HTK.out rfl
    have HOK : Hid (tkOk x (kidsOf L k) p n2) := hok
    clear hok
    refine wh_take 5 (some 10) (.agg #[.int .i64 x, .int .i64 y, .int .i64 u, .slice a1 n1 cap1]) rfl rfl (by kernel_rfl) (by kernel_rfl) (by kernel_rfl) (fun _ _ _ h => h) hS1 (by rfl) (fun w' hS => by have q0 := (cell_of_block hS.1 0).trans rfl; have q1 := (cell_of_block hS.1 1).trans rfl; have q2 := (cell_of_block hS.1 2).trans rfl; have q3 := (cell_of_block hS.1 3).trans rfl; first | rfl | (go_simp; done)) ?_
    simp only [Act.put, List.setIfInBounds_toArray, List.set_cons_zero, List.set_cons_succ]
    refine wh_take 6 (some 11) (.pointer (some ⟨w.heap.size + 1, 0, none⟩)) rfl rfl (by kernel_rfl) (by kernel_rfl) (by kernel_rfl) (fun _ _ _ h => h) hS1 (by rfl) (fun w' hS => by first | rfl | (go_simp; done)) ?_
    simp only [Act.put, List.setIfInBounds_toArray, List.set_cons_zero, List.set_cons_succ]
    refine wh_take 7 (some 12) (.pointer (some ⟨w.heap.size + 1, 0, none⟩)) rfl rfl (by kernel_rfl) (by kernel_rfl) (by kernel_rfl) (fun _ _ _ h => h) hS1 (by rfl) (fun w' hS => by first | rfl | (go_simp; done)) ?_
    simp only [Act.put, List.setIfInBounds_toArray, List.set_cons_zero, List.set_cons_succ]
    refine wh_take 8 (some 13) (.int .i64 p) rfl rfl (by kernel_rfl) (by kernel_rfl) (by kernel_rfl) (fun _ _ _ h => h) hS1 (by rfl) (fun w' hS => by have q0 := (cell_of_block hS.2 0).trans rfl; have q1 := (cell_of_block hS.2 1).trans rfl; have q2 := (cell_of_block hS.2 2).trans rfl; have q3 := (cell_of_block hS.2 3).trans rfl; first | rfl | (go_simp; done)) ?_
    simp only [Act.put, List.setIfInBounds_toArray, List.set_cons_zero, List.set_cons_succ]
    refine wh_take 9 (some 14) (.pointer (some ⟨w.heap.size + 1, 3, none⟩)) rfl rfl (by kernel_rfl) (by kernel_rfl) (by kernel_rfl) (fun _ _ _ h => h) hS1 (by rfl) (fun w' hS => by first | rfl | (go_simp; done)) ?_
    simp only [Act.put, List.setIfInBounds_toArray, List.set_cons_zero, List.set_cons_succ]
    refine wh_take 10 (some 15) (.slice a2 n2 cap2) rfl rfl (by kernel_rfl) (by kernel_rfl) (by kernel_rfl) (fun _ _ _ h => h) hS1 (by rfl) (fun w' hS => by have q0 := (cell_of_block hS.2 0).trans rfl; have q1 := (cell_of_block hS.2 1).trans rfl; have q2 := (cell_of_block hS.2 2).trans rfl; have q3 := (cell_of_block hS.2 3).trans rfl; first | rfl | (go_simp; done)) ?_
    simp only [Act.put, List.setIfInBounds_toArray, List.set_cons_zero, List.set_cons_succ]
    refine wh_take 11 (some 16) (.int .i64 (n2 : Int)) rfl rfl (by kernel_rfl) (by kernel_rfl) (by kernel_rfl) (fun _ _ _ h => h) hS1 (by rfl) (fun w' hS => by first | rfl | (go_simp; done)) ?_
    simp only [Act.put, List.setIfInBounds_toArray, List.set_cons_zero, List.set_cons_succ]
    refine wh_take 13 (some 18) (.pointer (some ⟨w.heap.size + 1, 3, none⟩)) rfl rfl (by kernel_rfl) (by kernel_rfl) (by kernel_rfl) (fun _ _ _ h => h) hS1 (by rfl) (fun w' hS => by first | rfl | (go_simp; done)) ?_
    simp only [Act.put, List.setIfInBounds_toArray, List.set_cons_zero, List.set_cons_succ]
    refine wh_take 14 (some 19) (.slice a2 n2 cap2) rfl rfl (by kernel_rfl) (by kernel_rfl) (by kernel_rfl) (fun _ _ _ h => h) hS1 (by rfl) (fun w' hS => by have q0 := (cell_of_block hS.2 0).trans rfl; have q1 := (cell_of_block hS.2 1).trans rfl; have q2 := (cell_of_block hS.2 2).trans rfl; have q3 := (cell_of_block hS.2 3).trans rfl; first | rfl | (go_simp; done)) ?_
    simp only [Act.put, List.setIfInBounds_toArray, List.set_cons_zero, List.set_cons_succ]
    refine wh_call 12 (some 17) 46 #[.agg #[.int .i64 x, .int .i64 y, .int .i64 u, .slice a1 n1 cap1], .int .i64 p, .int .i64 (n2 : Int)] (by kernel_rfl) rfl rfl (by rfl) (by kernel_rfl) ?_
    refine (HKD.out w1 a1 cap1 hc1 hw1s hb1 HROW.out HOK.out).mono ?_
    rintro e2 w2 ⟨sl9, rfl, hr9, B2⟩
    have hb2 := below2 hb1 B2
    have hS2 := HS.out w1 w2 hw1s B2 hS1
    refine ⟨_, rfl, hS2, ?_⟩
    simp only [Act.put, List.setIfInBounds_toArray, List.set_cons_zero, List.set_cons_succ]
    refine wh_call 15 (some 20) 67 #[sl9, .slice a2 n2 cap2, .func (.func 44) #[] #[]] (by kernel_rfl) rfl rfl (by rfl) (by kernel_rfl) ?_
    refine (HEQ.out w2 sl9 hb2 hr9 (h13.out HOK.out)).mono ?_
    rintro e3 w3 ⟨rfl, B3⟩
    have hb3 := below2 hb2 B3
    have hS3 := HS.out w2 w3 (by have := B2.size; omega) B3 hS2
    refine ⟨_, rfl, hS3, ?_⟩
    simp only [Act.put, List.setIfInBounds_toArray, List.set_cons_zero, List.set_cons_succ]
    refine wh_take 16 (some 21) (.bool FL) rfl rfl (by kernel_rfl) (by kernel_rfl) (by kernel_rfl) (fun _ _ _ h => h) hS3 (by rfl) (fun w' hS => by first | rfl | (go_simp; done)) ?_
    simp only [Act.put, List.setIfInBounds_toArray, List.set_cons_zero, List.set_cons_succ]
    refine wh_val 17 (some 4) (.bool FL) w3 (by kernel_rfl) rfl rfl (by rfl) (by first | rfl | (go_simp; done)) hS3 ?_
    simp only [Act.put, List.setIfInBounds_toArray, List.set_cons_zero, List.set_cons_succ]
    refine wh_done (by kernel_rfl) ?_
    clear hS0 hS1 hS2 hS3 HS HN HEQ HKD hr9
    go_wp2
    go_ret
    exact ⟨rfl, hb3⟩

theorem implFits (L : List Nd) (V : List Vn) (hG : goodT L = true) (hV : V.length ≤ 100) (hVs : ∀ x ∈ V, x.2.1.size ≤ 1048576) : ∀ (f g k v : Nat), k < L.length → v < V.length → FitI L V f g k v
  | 0, _, _, _, _, _ => fun _ _ _ _ _ _ _ _ _ h => h.elim
  | _ + 1, 0, _, _, _, _ => fun _ _ _ _ _ _ _ _ _ _ _ h => h.elim
  | f + 1, g + 1, k, v, hk, hv => implFits_step L V hG hV hVs f g k v hk hv (fun k' hk' v' hv' => implFits L V hG hV hVs f g k' v' (kids_mem hk').2 (kto_mem.1 hv').1)

end Go.Proofs.YtljnciclbjcinaaGreatDoor

namespace Go.Proofs.YtljnciclbjcinaaGreatDoor
open Go.ChangeShapes Go.WideShapes Go.ChangeAt Go.RowKit

set_option maxRecDepth 100000 in
set_option maxHeartbeats 1600000 in
theorem implGoodTree (a : Option Addr) (b off cap : Nat) (L : List Nd) (w : World) (ha : Hid (L ≠ [] → a = some ⟨b, off, none⟩ ∧ b < w.heap.size)) (hL : Hid (ndAt w b off L)) (hlen : L.length ≤ 1048576) (hT : Hid (Tabs w)) :
    Calls Tryz.prog 32 #[.slice a L.length cap] w fun e w' => ∃ (x y u : Int) (sa : Option Addr) (sn sc : Nat), e = .returned (.tuple #[.agg #[.int .i64 x, .int .i64 y, .int .i64 u, .slice sa sn sc], .bool (goodT L)]) ∧ Hid (goodT L = true → x = kdAt L 0 ∧ y = nAt L 0 ∧ u = upAt L 0 ∧ RN L w.heap.size w'.heap.size L.length w' 0 (.slice sa sn sc)) ∧ Below w.heap.size w w' := by
  have HG : Hid (∀ W, Below w.heap.size w W → Calls Tryz.prog 55 #[.slice a L.length cap] W fun e w' => e = .returned (.bool (goodT L)) ∧ Below W.heap.size W w') := fun W hW =>
    implGood a b off cap L W (fun h => ⟨(ha.out h).1, Nat.lt_of_lt_of_le (ha.out h).2 hW.size⟩) (fun i hi => (hL.out.below hW (ha.out (fun e => by simp [e] at hi)).2) i hi) hlen (hT.out.below hW (Nat.le_refl _))
  have HOF : Hid (goodT L = true → ∀ W, Below w.heap.size w W → Calls Tryz.prog 56 #[.slice a L.length cap] W fun e w' => ∃ (x y u : Int) (sa : Option Addr) (sn sc : Nat), e = .returned (.tuple #[.agg #[.int .i64 x, .int .i64 y, .int .i64 u, .slice sa sn sc], .bool true]) ∧ Hid (x = kdAt L 0 ∧ y = nAt L 0 ∧ u = upAt L 0 ∧ RN L W.heap.size w'.heap.size L.length w' 0 (.slice sa sn sc)) ∧ Below W.heap.size W w') := fun hg W hW => by
    have hs := good_shp hg
    have h40 := (ups_good12 hg).2.1
    refine (implTreeOfN a b off cap L W (fun h => ⟨(ha.out h).1, Nat.lt_of_lt_of_le (ha.out h).2 hW.size⟩) (fun i hi => (hL.out.below hW (ha.out (fun e => by simp [e] at hi)).2) i hi) (by omega)).mono ?_
    rintro e w' ⟨x, y, u, sa, sn, sc, rfl, h1, h2⟩
    rw [hs] at h1 ⊢
    exact ⟨x, y, u, sa, sn, sc, rfl, h1.out rfl, h2⟩
  obtain ⟨G, hG⟩ : ∃ G, goodT L = G := ⟨_, rfl⟩
  rw [hG] at HG HOF ⊢
  clear hG hT
  have HAL : Hid (∀ o, Below w.heap.size w (w.alloc o) ∧ (w.alloc o).heap.size = w.heap.size + 1) := fun o => ⟨(Below.refl _ _).alloc (Nat.le_refl _) o, by simp⟩
  go_enter Tryz.func32, Tryz.ntmps32
  go_wp2_with fail
  refine (HG.out _ (HAL.out _).1).mono ?_
  rintro e w1 ⟨rfl, hb1⟩
  have r1 : w1.heap[w.heap.size]? = some (.cells #[.int .i64 0, .int .i64 0, .int .i64 0, .slice none 0 0] 61 (0, 0)) := (hb1.block _ (by rw [(HAL.out _).2]; omega)).trans (heap_alloc_new _ _)
  have hbw : Below w.heap.size w w1 := (HAL.out _).1.trans (hb1.mono (by rw [(HAL.out _).2]; omega))
  have hl1 := lt_of_block r1
  clear HG hb1 HAL
  cases G with
  | false =>
    obtain ⟨G1, hG1⟩ : ∃ G : World, (((w1.setCell ⟨w.heap.size, 0, none⟩ (.int .i64 0)).setCell ⟨w.heap.size, 1, none⟩ (.int .i64 0)).setCell ⟨w.heap.size, 2, none⟩ (.int .i64 0)).setCell ⟨w.heap.size, 3, none⟩ (.slice none 0 0) = G := ⟨_, rfl⟩
    obtain ⟨rG, _, _, hGb⟩ := set4 r1 _ _ _ _ hG1
    have bG := hGb _ _ (Nat.le_refl _) hbw
    have e0 := (cell_of_block r1 0).trans rfl
    have e1 := (cell_of_block r1 1).trans rfl
    have e2 := (cell_of_block r1 2).trans rfl
    have e3 := (cell_of_block r1 3).trans rfl
    have f0 := free_of_block r1 0
    have f1 := free_of_block r1 1
    have f2 := free_of_block r1 2
    have f3 := free_of_block r1 3
    have k0 := (cell_of_block rG 0).trans rfl
    have k1 := (cell_of_block rG 1).trans rfl
    have k2 := (cell_of_block rG 2).trans rfl
    have k3 := (cell_of_block rG 3).trans rfl
    clear rG hGb r1 HOF
    go_wp2
    exact bodyPost_ret (v := .tuple #[.agg #[.int .i64 0, .int .i64 0, .int .i64 0, .slice none 0 0], .bool false]) (by simp [results, Tryz.results32, go_sem, k0, k1, k2, k3]) rfl ⟨0, 0, 0, none, 0, 0, rfl, fun h => by simp at h, bG⟩
  | true =>
    have HOF1 := HOF.out rfl w1 hbw
    clear HOF
    go_wp2_with fail
    refine HOF1.mono ?_
    rintro e w2 ⟨x, y, u, sa, sn, sc, rfl, HR, hb2⟩
    clear HOF1
    have r2 := (hb2.block _ hl1).trans r1
    have hbw2 := below2 hbw hb2
    obtain ⟨G1, hG1⟩ : ∃ G : World, (((w2.setCell ⟨w.heap.size, 0, none⟩ (.int .i64 x)).setCell ⟨w.heap.size, 1, none⟩ (.int .i64 y)).setCell ⟨w.heap.size, 2, none⟩ (.int .i64 u)).setCell ⟨w.heap.size, 3, none⟩ (.slice sa sn sc) = G := ⟨_, rfl⟩
    obtain ⟨rG, hGo, hGs, hGb⟩ := set4 r2 _ _ _ _ hG1
    have bG := hGb _ _ (Nat.le_refl _) hbw2
    have HRG : Hid (x = kdAt L 0 ∧ y = nAt L 0 ∧ u = upAt L 0 ∧ RN L w.heap.size G1.heap.size L.length G1 0 (.slice sa sn sc)) := by
      obtain ⟨a1, a2, a3, a4⟩ := HR.out
      exact ⟨a1, a2, a3, R4.wide hbw.size (by omega) (R4.keep a4 fun g g1 _ => hGo g (by omega))⟩
    have e0 := (cell_of_block r2 0).trans rfl
    have e1 := (cell_of_block r2 1).trans rfl
    have e2 := (cell_of_block r2 2).trans rfl
    have e3 := (cell_of_block r2 3).trans rfl
    have f0 := free_of_block r2 0
    have f1 := free_of_block r2 1
    have f2 := free_of_block r2 2
    have f3 := free_of_block r2 3
    have k0 := (cell_of_block rG 0).trans rfl
    have k1 := (cell_of_block rG 1).trans rfl
    have k2 := (cell_of_block rG 2).trans rfl
    have k3 := (cell_of_block rG 3).trans rfl
    clear rG hGb r1 r2 HR hGo hGs
    go_wp2
    exact bodyPost_ret (v := .tuple #[.agg #[.int .i64 x, .int .i64 y, .int .i64 u, .slice sa sn sc], .bool true]) (by simp [results, Tryz.results32, go_sem, k0, k1, k2, k3]) rfl ⟨x, y, u, sa, sn, sc, rfl, (by first | exact HRG.out | exact fun _ => HRG.out), bG⟩

/-- Whether V is a value of L. -/
def fitR (L : List Nd) (V : List Vn) : Bool := goodT L && (shpOk V && fitM L V L.length 0 0)

set_option maxRecDepth 100000 in
set_option maxHeartbeats 3200000 in
theorem implFitting (a a' : Option Addr) (b off cap b' off' cap' : Nat) (L : List Nd) (V : List Vn) (w : World) (ha : Hid (L ≠ [] → a = some ⟨b, off, none⟩ ∧ b < w.heap.size)) (hL : Hid (ndAt w b off L)) (hlen : L.length ≤ 1048576) (ha' : Hid (V ≠ [] → a' = some ⟨b', off', none⟩ ∧ b' < w.heap.size)) (hV : Hid (vlAt w b' off' V)) (hlen' : V.length ≤ 1048576) (hVs : Hid (∀ x ∈ V, x.2.1.size ≤ 1048576)) (hT : Hid (Tabs w)) (hB : Hid (BTabs w)) (hU : Hid (UTabs w)) :
    Calls Tryz.prog 25 #[.slice a L.length cap, .slice a' V.length cap'] w fun e w' => ∃ (x y u : Int) (sa : Option Addr) (sn sc : Nat) (p : Int) (s : ByteArray) (q : Int) (ta : Option Addr) (tn tc : Nat), e = .returned (.tuple #[.agg #[.int .i64 x, .int .i64 y, .int .i64 u, .slice sa sn sc], .agg #[.int .i64 p, .string s, .int .i64 q, .slice ta tn tc], .bool (fitR L V)]) ∧ Below w.heap.size w w' := by
  have HGT : Hid (∀ W, Below w.heap.size w W → Calls Tryz.prog 32 #[.slice a L.length cap] W fun e w' => ∃ (x y u : Int) (sa : Option Addr) (sn sc : Nat), e = .returned (.tuple #[.agg #[.int .i64 x, .int .i64 y, .int .i64 u, .slice sa sn sc], .bool (goodT L)]) ∧ Hid (goodT L = true → x = kdAt L 0 ∧ y = nAt L 0 ∧ u = upAt L 0 ∧ RN L W.heap.size w'.heap.size L.length w' 0 (.slice sa sn sc)) ∧ Below W.heap.size W w') := fun W hW =>
    implGoodTree a b off cap L W (fun h => ⟨(ha.out h).1, Nat.lt_of_lt_of_le (ha.out h).2 hW.size⟩) (fun i hi => (hL.out.below hW (ha.out (fun e => by simp [e] at hi)).2) i hi) hlen (hT.out.below hW (Nat.le_refl _))
  have HOF : Hid (V.length ≤ 100 → ∀ W, Below w.heap.size w W → Calls Tryz.prog 43 #[.slice a' V.length cap'] W fun e w' => ∃ (p : Int) (s : ByteArray) (q : Int) (ta : Option Addr) (tn tc : Nat), e = .returned (.tuple #[.agg #[.int .i64 p, .string s, .int .i64 q, .slice ta tn tc], .bool (shpV (vuAt V) V.length)]) ∧ Hid (shpV (vuAt V) V.length = true → p = vnAt V 0 ∧ s = vtAt V 0 ∧ q = vuAt V 0 ∧ RV V W.heap.size w'.heap.size V.length w' 0 (.slice ta tn tc)) ∧ Below W.heap.size W w') := fun hl W hW =>
    implTreeOfV a' b' off' cap' V W (fun h => ⟨(ha'.out h).1, Nat.lt_of_lt_of_le (ha'.out h).2 hW.size⟩) (fun i hi => (hV.out.below hW (ha'.out (fun e => by simp [e] at hi)).2) i hi) hl
  obtain ⟨R, hR⟩ : ∃ R, Hid (fitR L V = R) := ⟨_, rfl⟩
  rw [hR.out]
  obtain ⟨G, hG⟩ : ∃ G, Hid (goodT L = G) := ⟨_, rfl⟩
  rw [hG.out] at HGT
  have HFT : Hid (goodT L = true → V.length ≤ 100 → shpV (vuAt V) V.length = true → ∀ (W : World) (lo hi lo' hi' : Nat) (u z : Int) (sl sl' : Value), Below w.heap.size w W → RN L lo hi L.length W 0 sl → hi ≤ W.heap.size → RV V lo' hi' V.length W 0 sl' → hi' ≤ W.heap.size →
      Calls Tryz.prog 44 #[.agg #[.int .i64 (kdAt L 0), .int .i64 (nAt L 0), .int .i64 u, sl], .agg #[.int .i64 (vnAt V 0), .string (vtAt V 0), .int .i64 z, sl']] W fun e w' => e = .returned (.bool (fitM L V L.length 0 0)) ∧ Below W.heap.size W w') := fun g1 g2 g3 W lo hi lo' hi' u z sl sl' hW h1 h2 h3 h4 =>
    implFits L V g1 g2 hVs.out L.length V.length 0 0 (ups_good12 g1).1 (by unfold shpV at g3; simp at g3; omega) W lo hi lo' hi' u z sl sl' h1 h2 h3 h4 (hB.out.below hW (Nat.le_refl _)) (Utf8Tabs_below hU.out hW)
  obtain ⟨W0, hW0⟩ : ∃ W, (w.alloc (.cells #[.int .i64 0, .int .i64 0, .int .i64 0, .slice none 0 0] 61)).alloc (.cells #[.int .i64 0, .string ⟨#[]⟩, .int .i64 0, .slice none 0 0] 64) = W := ⟨_, rfl⟩
  have hb0 : Below w.heap.size w W0 := by rw [← hW0]; exact ((Below.refl _ _).alloc (Nat.le_refl _) _).alloc (by simp) _
  have z10 : W0.heap[w.heap.size]? = some (.cells #[.int .i64 0, .int .i64 0, .int .i64 0, .slice none 0 0] 61 (0, 0)) := by rw [← hW0]; exact (Below.heap_alloc _ _ _ (by simp)).trans (heap_alloc_new _ _)
  have z20 : W0.heap[w.heap.size + 1]? = some (.cells #[.int .i64 0, .string ⟨#[]⟩, .int .i64 0, .slice none 0 0] 64 (0, 0)) := by
    rw [← hW0]
    have e : w.heap.size + 1 = (w.alloc (.cells #[.int .i64 0, .int .i64 0, .int .i64 0, .slice none 0 0] 61)).heap.size := by simp
    rw [e]
    exact heap_alloc_new _ _
  go_enter Tryz.func25, Tryz.ntmps25
  go_wp2_with fail
  refine (HGT.out _ hb0).mono ?_
  rintro e1 w1 ⟨x, y, u, sa, sn, sc, rfl, HR1, B1⟩
  have hb1 := below2 hb0 B1
  have z11 := (B1.block _ (lt_of_block z10)).trans z10
  have z21 := (B1.block _ (lt_of_block z20)).trans z20
  have hl1 := lt_of_block z21
  have hW0s := hb0.size
  clear HGT B1 hW0 hb0 z10 z20
  obtain ⟨W1, hW1⟩ : ∃ W, w1.alloc (.cells #[.int .i64 x, .int .i64 y, .int .i64 u, .slice sa sn sc] 61) = W := ⟨_, rfl⟩
  have hbW1 : Below w1.heap.size w1 W1 := by rw [← hW1]; exact (Below.refl _ _).alloc (Nat.le_refl _) _
  have q7W : W1.heap[w1.heap.size]? = some (.cells #[.int .i64 x, .int .i64 y, .int .i64 u, .slice sa sn sc] 61 (0, 0)) := by rw [← hW1]; exact heap_alloc_new _ _
  have z1W := (hbW1.block _ (by omega)).trans z11
  have z2W := (hbW1.block _ (by omega)).trans z21
  have hbwW := below2 hb1 hbW1
  obtain ⟨N, hN⟩ : ∃ N : Int, (V.length : Int) = N := ⟨_, rfl⟩
  have HN : Hid ((V.length : Int) = N) := hN
  by_cases hbad : G = false ∨ 100 < N
  · obtain rfl : R = false := by
      rw [← hR.out]
      unfold fitR
      rcases hbad with h | h
      · rw [hG.out, h]; rfl
      · have : ¬ V.length ≤ 100 := by have := HN.out; omega
        simp [shpOk, this]
    obtain ⟨G1, hG1⟩ : ∃ G : World, (((W1.setCell ⟨w.heap.size, 0, none⟩ (.int .i64 0)).setCell ⟨w.heap.size, 1, none⟩ (.int .i64 0)).setCell ⟨w.heap.size, 2, none⟩ (.int .i64 0)).setCell ⟨w.heap.size, 3, none⟩ (.slice none 0 0) = G := ⟨_, rfl⟩
    obtain ⟨rG1, hGo1, hGs1, hGb1⟩ := set4 z1W _ _ _ _ hG1
    have z2' := (hGo1 (w.heap.size + 1) (by omega)).trans z2W
    obtain ⟨G2, hG2⟩ : ∃ G : World, (((G1.setCell ⟨w.heap.size + 1, 0, none⟩ (.int .i64 0)).setCell ⟨w.heap.size + 1, 1, none⟩ (.string ⟨#[]⟩)).setCell ⟨w.heap.size + 1, 2, none⟩ (.int .i64 0)).setCell ⟨w.heap.size + 1, 3, none⟩ (.slice none 0 0) = G := ⟨_, rfl⟩
    obtain ⟨rG2, hGo2, hGs2, hGb2⟩ := set4 z2' _ _ _ _ hG2
    have rG1' := (hGo2 w.heap.size (by omega)).trans rG1
    have bG2 := hGb2 _ _ (by omega) (hGb1 _ _ (Nat.le_refl _) hbwW)
    have e0 := (cell_of_block z1W 0).trans rfl
    have e1 := (cell_of_block z1W 1).trans rfl
    have e2 := (cell_of_block z1W 2).trans rfl
    have e3 := (cell_of_block z1W 3).trans rfl
    have f0 := free_of_block z1W 0
    have f1 := free_of_block z1W 1
    have f2 := free_of_block z1W 2
    have f3 := free_of_block z1W 3
    have g0 := (cell_of_block z2' 0).trans rfl
    have g1 := (cell_of_block z2' 1).trans rfl
    have g2 := (cell_of_block z2' 2).trans rfl
    have g3 := (cell_of_block z2' 3).trans rfl
    have hh0 := free_of_block z2' 0
    have hh1 := free_of_block z2' 1
    have hh2 := free_of_block z2' 2
    have hh3 := free_of_block z2' 3
    have k0 := (cell_of_block rG1' 0).trans rfl
    have k1 := (cell_of_block rG1' 1).trans rfl
    have k2 := (cell_of_block rG1' 2).trans rfl
    have k3 := (cell_of_block rG1' 3).trans rfl
    have l0 := (cell_of_block rG2 0).trans rfl
    have l1 := (cell_of_block rG2 1).trans rfl
    have l2 := (cell_of_block rG2 2).trans rfl
    have l3 := (cell_of_block rG2 3).trans rfl
    clear z1W z2W z2' rG1 rG2 rG1' hGo1 hGo2 hGb1 hGb2 hGs1 hGs2 q7W hbwW HFT HOF HR1 z11 z21 hbW1
    cases G with
    | false =>
      clear hbad
      go_wp2
      exact bodyPost_ret (v := .tuple #[.agg #[.int .i64 0, .int .i64 0, .int .i64 0, .slice none 0 0], .agg #[.int .i64 0, .string ⟨#[]⟩, .int .i64 0, .slice none 0 0], .bool false]) (by simp [results, Tryz.results25, go_sem, k0, k1, k2, k3, l0, l1, l2, l3]) rfl ⟨0, 0, 0, none, 0, 0, 0, ⟨#[]⟩, 0, none, 0, 0, rfl, bG2⟩
    | true =>
      have hN1 : 100 < N := hbad.resolve_left (by simp)
      clear hbad
      go_wp2
      exact bodyPost_ret (v := .tuple #[.agg #[.int .i64 0, .int .i64 0, .int .i64 0, .slice none 0 0], .agg #[.int .i64 0, .string ⟨#[]⟩, .int .i64 0, .slice none 0 0], .bool false]) (by simp [results, Tryz.results25, go_sem, k0, k1, k2, k3, l0, l1, l2, l3]) rfl ⟨0, 0, 0, none, 0, 0, 0, ⟨#[]⟩, 0, none, 0, 0, rfl, bG2⟩
  · have hGt : G = true := by
      cases G with
      | true => rfl
      | false => exact absurd (Or.inl rfl) hbad
    subst hGt
    have hN1 : ¬ 100 < N := fun h => hbad (Or.inr h)
    have hl100 : V.length ≤ 100 := by have := HN.out; omega
    have HOF1 := HOF.out hl100 W1 hbwW
    have HFT1 := fun hp => HFT.out hG.out hl100 hp
    obtain ⟨P, hP⟩ : ∃ P, shpV (vuAt V) V.length = P := ⟨_, rfl⟩
    have HRP : Hid (R = (P && fitM L V L.length 0 0)) := by
      unfold Hid
      rw [← hR.out]
      unfold fitR shpOk
      rw [hG.out, hP]
      simp [hl100]
    rw [hP] at HOF1 HFT1
    have HFT2 : Hid (P = true → ∀ (W : World) (lo hi lo' hi' : Nat) (u z : Int) (sl sl' : Value), Below w.heap.size w W → RN L lo hi L.length W 0 sl → hi ≤ W.heap.size → RV V lo' hi' V.length W 0 sl' → hi' ≤ W.heap.size →
      Calls Tryz.prog 44 #[.agg #[.int .i64 (kdAt L 0), .int .i64 (nAt L 0), .int .i64 u, sl], .agg #[.int .i64 (vnAt V 0), .string (vtAt V 0), .int .i64 z, sl']] W fun e w' => e = .returned (.bool (fitM L V L.length 0 0)) ∧ Below W.heap.size W w') := HFT1
    have HR1' := HR1.out (by trivial)
    have HRN : Hid (x = kdAt L 0 ∧ y = nAt L 0 ∧ u = upAt L 0 ∧ RN L w.heap.size w1.heap.size L.length w1 0 (.slice sa sn sc)) := ⟨HR1'.1, HR1'.2.1, HR1'.2.2.1, R4.wide (by omega) (Nat.le_refl _) HR1'.2.2.2⟩
    clear HFT HFT1 HR1 HR1' HOF hP hG hR hbad
    go_wp2_with fail
    refine HOF1.mono ?_
    rintro e2 w2 ⟨p, s, q, ta, tn, tc, rfl, HR2, B2⟩
    have hb2 := below2 hbwW B2
    obtain ⟨q7, hq7⟩ : ∃ z, w1.heap.size = z := ⟨_, rfl⟩
    have q72 := (B2.block _ (lt_of_block q7W)).trans q7W
    have z12 := (B2.block _ (lt_of_block z1W)).trans z1W
    have z22 := (B2.block _ (lt_of_block z2W)).trans z2W
    have B02 := below2 hbW1 B2
    clear HOF1 B2 hW1 q7W z1W z2W hbwW
    obtain ⟨W2, hW2⟩ : ∃ W, w2.alloc (.cells #[.int .i64 p, .string s, .int .i64 q, .slice ta tn tc] 64) = W := ⟨_, rfl⟩
    have hbW2 : Below w2.heap.size w2 W2 := by rw [← hW2]; exact (Below.refl _ _).alloc (Nat.le_refl _) _
    have q9W : W2.heap[w2.heap.size]? = some (.cells #[.int .i64 p, .string s, .int .i64 q, .slice ta tn tc] 64 (0, 0)) := by rw [← hW2]; exact heap_alloc_new _ _
    have q7W := (hbW2.block _ (lt_of_block q72)).trans q72
    have z1 := (hbW2.block _ (lt_of_block z12)).trans z12
    have z2 := (hbW2.block _ (lt_of_block z22)).trans z22
    have hbF := below2 hb2 hbW2
    have hRNW : Hid (RN L w.heap.size w1.heap.size L.length W2 0 (.slice sa sn sc) ∧ (P = true → RV V W1.heap.size w2.heap.size V.length W2 0 (.slice ta tn tc))) := ⟨R4.below (R4.below HRN.out.2.2.2 B02 (Nat.le_refl _)) hbW2 (by have := B02.size; omega), fun h => R4.below (HR2.out h).2.2.2 hbW2 (Nat.le_refl _)⟩
    obtain ⟨q9, hq9⟩ : ∃ z, w2.heap.size = z := ⟨_, rfl⟩
    have hq79 : w.heap.size + 1 < q7 ∧ q7 < q9 := by have := B02.size; have := lt_of_block q72; omega
    rw [hq7] at q7W q72
    rw [hq9] at q9W
    have hS0 : (fun W' : World => W'.heap[q7]? = some (.cells #[.int .i64 x, .int .i64 y, .int .i64 u, .slice sa sn sc] 61 (0, 0)) ∧ W'.heap[q9]? = some (.cells #[.int .i64 p, .string s, .int .i64 q, .slice ta tn tc] 64 (0, 0))) W2.drew := ⟨q7W, q9W⟩
    have hlW2 : q9 < W2.drew.heap.size := lt_of_block q9W
    have hbD : Below w.heap.size w W2.drew := hbF.drew
    have hRND : Hid (RN L w.heap.size q7 L.length W2.drew 0 (.slice sa sn sc) ∧ (P = true → RV V W1.heap.size q9 V.length W2.drew 0 (.slice ta tn tc))) := ⟨by rw [← hq7]; exact R4.keep hRNW.out.1 fun _ _ _ => rfl, fun h => by rw [← hq9]; exact R4.keep (hRNW.out.2 h) fun _ _ _ => rfl⟩
    have hz12 : Hid (W2.drew.heap[w.heap.size]? = some (.cells #[.int .i64 0, .int .i64 0, .int .i64 0, .slice none 0 0] 61 (0, 0)) ∧ W2.drew.heap[w.heap.size + 1]? = some (.cells #[.int .i64 0, .string ⟨#[]⟩, .int .i64 0, .slice none 0 0] 64 (0, 0))) := ⟨z1, z2⟩
    clear hRNW z11 z21 z12 z22 q72 q7W q9W z1 z2
    try rw [hq7]
    try rw [hq9]
    go_wp2_with fail
    refine wh_begin (fun W' : World => W'.heap[q7]? = some (.cells #[.int .i64 x, .int .i64 y, .int .i64 u, .slice sa sn sc] 61 (0, 0)) ∧ W'.heap[q9]? = some (.cells #[.int .i64 p, .string s, .int .i64 q, .slice ta tn tc] 64 (0, 0))) (by kernel_rfl) ?_
    generalize W2.drew = W3 at hS0 hz12 hbD hRND hlW2 ⊢
    refine wh_take 0 (some 30) (.agg #[.int .i64 x, .int .i64 y, .int .i64 u, .slice sa sn sc]) rfl rfl (by kernel_rfl) (by kernel_rfl) (by kernel_rfl) (fun _ _ _ h => h) hS0 (by rfl) (fun w' hS => by have q0 := (cell_of_block hS.1 0).trans rfl; have q1 := (cell_of_block hS.1 1).trans rfl; have q2 := (cell_of_block hS.1 2).trans rfl; have q3 := (cell_of_block hS.1 3).trans rfl; first | rfl | (go_simp; done)) ?_
    simp only [Act.put, List.setIfInBounds_toArray, List.set_cons_zero, List.set_cons_succ]
    refine wh_take 1 (some 31) (.agg #[.int .i64 p, .string s, .int .i64 q, .slice ta tn tc]) rfl rfl (by kernel_rfl) (by kernel_rfl) (by kernel_rfl) (fun _ _ _ h => h) hS0 (by rfl) (fun w' hS => by have q0 := (cell_of_block hS.2 0).trans rfl; have q1 := (cell_of_block hS.2 1).trans rfl; have q2 := (cell_of_block hS.2 2).trans rfl; have q3 := (cell_of_block hS.2 3).trans rfl; first | rfl | (go_simp; done)) ?_
    simp only [Act.put, List.setIfInBounds_toArray, List.set_cons_zero, List.set_cons_succ]
    refine wh_take 2 (some 32) (.bool P) rfl rfl (by kernel_rfl) (by kernel_rfl) (by kernel_rfl) (fun _ _ _ h => h) hS0 (by rfl) (fun w' hS => by first | rfl | (go_simp; done)) ?_
    simp only [Act.put, List.setIfInBounds_toArray, List.set_cons_zero, List.set_cons_succ]
    refine wh_take 3 (some 33) (.bool P) rfl rfl (by kernel_rfl) (by kernel_rfl) (by kernel_rfl) (fun _ _ _ h => h) hS0 (by rfl) (fun w' hS => by first | rfl | (go_simp; done)) ?_
    simp only [Act.put, List.setIfInBounds_toArray, List.set_cons_zero, List.set_cons_succ]
    cases P with
    | false =>
      obtain rfl : R = false := by rw [HRP.out]; rfl
      refine wh_no 4 (some 34) rfl rfl (by kernel_rfl) (by kernel_rfl) (by kernel_rfl) (fun _ _ _ h => h) hS0 (by rfl) ?_
      simp only [Act.put, List.setIfInBounds_toArray, List.set_cons_zero, List.set_cons_succ]
      refine wh_no 5 (some 35) rfl rfl (by kernel_rfl) (by kernel_rfl) (by kernel_rfl) (fun _ _ _ h => h) hS0 (by rfl) ?_
      simp only [Act.put, List.setIfInBounds_toArray, List.set_cons_zero, List.set_cons_succ]
      refine wh_no 6 (some 36) rfl rfl (by kernel_rfl) (by kernel_rfl) (by kernel_rfl) (fun _ _ _ h => h) hS0 (by rfl) ?_
      simp only [Act.put, List.setIfInBounds_toArray, List.set_cons_zero, List.set_cons_succ]
      refine wh_take 7 (some 37) (.bool false) rfl rfl (by kernel_rfl) (by kernel_rfl) (by kernel_rfl) (fun _ _ _ h => h) hS0 (by rfl) (fun w' hS => by first | rfl | (go_simp; done)) ?_
      simp only [Act.put, List.setIfInBounds_toArray, List.set_cons_zero, List.set_cons_succ]
      have z1 := hz12.out.1
      have z2 := hz12.out.2
      have hSF := hS0
      have hbF := hbD
      clear HFT2 HRN hRND hS0
      obtain ⟨G1, hG1⟩ : ∃ G : World, (((W3.setCell ⟨w.heap.size, 0, none⟩ (.int .i64 x)).setCell ⟨w.heap.size, 1, none⟩ (.int .i64 y)).setCell ⟨w.heap.size, 2, none⟩ (.int .i64 u)).setCell ⟨w.heap.size, 3, none⟩ (.slice sa sn sc) = G := ⟨_, rfl⟩
      obtain ⟨rG1, hGo1, hGs1, hGb1⟩ := set4 z1 _ _ _ _ hG1
      have z2' := (hGo1 _ (by omega)).trans z2
      obtain ⟨G2, hG2⟩ : ∃ G : World, (((G1.setCell ⟨w.heap.size + 1, 0, none⟩ (.int .i64 p)).setCell ⟨w.heap.size + 1, 1, none⟩ (.string s)).setCell ⟨w.heap.size + 1, 2, none⟩ (.int .i64 q)).setCell ⟨w.heap.size + 1, 3, none⟩ (.slice ta tn tc) = G := ⟨_, rfl⟩
      obtain ⟨rG2, hGo2, hGs2, hGb2⟩ := set4 z2' _ _ _ _ hG2
      have rG1' := (hGo2 w.heap.size (by omega)).trans rG1
      have bG2 := hGb2 _ _ (by omega) (hGb1 _ _ (Nat.le_refl _) hbF)
      have hSG1 : (fun W' : World => W'.heap[q7]? = some (.cells #[.int .i64 x, .int .i64 y, .int .i64 u, .slice sa sn sc] 61 (0, 0)) ∧ W'.heap[q9]? = some (.cells #[.int .i64 p, .string s, .int .i64 q, .slice ta tn tc] 64 (0, 0))) G1 := ⟨(hGo1 q7 (by omega)).trans hSF.1, (hGo1 q9 (by omega)).trans hSF.2⟩
      have hSG2 : (fun W' : World => W'.heap[q7]? = some (.cells #[.int .i64 x, .int .i64 y, .int .i64 u, .slice sa sn sc] 61 (0, 0)) ∧ W'.heap[q9]? = some (.cells #[.int .i64 p, .string s, .int .i64 q, .slice ta tn tc] 64 (0, 0))) G2 := ⟨(hGo2 q7 (by omega)).trans hSG1.1, (hGo2 q9 (by omega)).trans hSG1.2⟩
      have e0 := (cell_of_block z1 0).trans rfl
      have e1 := (cell_of_block z1 1).trans rfl
      have e2 := (cell_of_block z1 2).trans rfl
      have e3 := (cell_of_block z1 3).trans rfl
      have f0 := free_of_block z1 0
      have f1 := free_of_block z1 1
      have f2 := free_of_block z1 2
      have f3 := free_of_block z1 3
      have g0 := (cell_of_block z2' 0).trans rfl
      have g1 := (cell_of_block z2' 1).trans rfl
      have g2 := (cell_of_block z2' 2).trans rfl
      have g3 := (cell_of_block z2' 3).trans rfl
      have hh0 := free_of_block z2' 0
      have hh1 := free_of_block z2' 1
      have hh2 := free_of_block z2' 2
      have hh3 := free_of_block z2' 3
      have k0 := (cell_of_block rG1' 0).trans rfl
      have k1 := (cell_of_block rG1' 1).trans rfl
      have k2 := (cell_of_block rG1' 2).trans rfl
      have k3 := (cell_of_block rG1' 3).trans rfl
      have l0 := (cell_of_block rG2 0).trans rfl
      have l1 := (cell_of_block rG2 1).trans rfl
      have l2 := (cell_of_block rG2 2).trans rfl
      have l3 := (cell_of_block rG2 3).trans rfl
      refine wh_skip 8 none G1 (by kernel_rfl) rfl rfl (by rfl) (by rw [← hG1]; go_simp) hSG1 ?_
      simp only [Act.put]
      refine wh_skip 9 none G2 (by kernel_rfl) rfl rfl (by rfl) (by rw [← hG2]; go_simp) hSG2 ?_
      simp only [Act.put]
      refine wh_val 10 (some 6) (.bool false) G2 (by kernel_rfl) rfl rfl (by rfl) (by first | rfl | (go_simp; done)) hSG2 ?_
      simp only [Act.put, List.setIfInBounds_toArray, List.set_cons_zero, List.set_cons_succ]
      refine wh_done (by kernel_rfl) ?_
      clear hSG1 hSG2 hSF z1 z2 z2' rG1 rG2 rG1' hGo1 hGo2 hGb1 hGb2 hGs1 hGs2 hG1 hG2 e0 e1 e2 e3 g0 g1 g2 g3 f0 f1 f2 f3 hh0 hh1 hh2 hh3
      go_wp2
      exact bodyPost_ret (v := .tuple #[.agg #[.int .i64 x, .int .i64 y, .int .i64 u, .slice sa sn sc], .agg #[.int .i64 p, .string s, .int .i64 q, .slice ta tn tc], .bool false]) (by simp [results, Tryz.results25, go_sem, k0, k1, k2, k3, l0, l1, l2, l3]) rfl (by first | exact ⟨x, y, u, sa, sn, sc, p, s, q, ta, tn, tc, rfl, bG2⟩ | exact ⟨⟨x, y, u, sa, sn, sc, p, s, q, ta, tn, tc, rfl⟩, bG2⟩ | exact ⟨⟨x, y, u, sa, sn, sc, rfl, p, s, q, ta, tn, tc, rfl⟩, bG2⟩ | (refine ⟨?_, bG2⟩; simp))
    | true =>
      have HR2' := HR2.out (by trivial)
      have hFC := HFT2.out (by trivial) W3 w.heap.size q7 W1.heap.size q9 u q (.slice sa sn sc) (.slice ta tn tc) hbD hRND.out.1 (by omega) (hRND.out.2 (by trivial)) (by omega)
      rw [← HRN.out.1, ← HRN.out.2.1, ← HR2'.1, ← HR2'.2.1] at hFC
      obtain ⟨F, hF⟩ : ∃ F, fitM L V L.length 0 0 = F := ⟨_, rfl⟩
      rw [hF] at hFC HRP
      obtain rfl : R = F := by rw [HRP.out]; simp
      clear hF HRP HFT2 HRN hRND HR2'
      refine wh_take 4 (some 34) (.agg #[.int .i64 x, .int .i64 y, .int .i64 u, .slice sa sn sc]) rfl rfl (by kernel_rfl) (by kernel_rfl) (by kernel_rfl) (fun _ _ _ h => h) hS0 (by rfl) (fun w' hS => by have q0 := (cell_of_block hS.1 0).trans rfl; have q1 := (cell_of_block hS.1 1).trans rfl; have q2 := (cell_of_block hS.1 2).trans rfl; have q3 := (cell_of_block hS.1 3).trans rfl; first | rfl | (go_simp; done)) ?_
      simp only [Act.put, List.setIfInBounds_toArray, List.set_cons_zero, List.set_cons_succ]
      refine wh_take 5 (some 35) (.agg #[.int .i64 p, .string s, .int .i64 q, .slice ta tn tc]) rfl rfl (by kernel_rfl) (by kernel_rfl) (by kernel_rfl) (fun _ _ _ h => h) hS0 (by rfl) (fun w' hS => by have q0 := (cell_of_block hS.2 0).trans rfl; have q1 := (cell_of_block hS.2 1).trans rfl; have q2 := (cell_of_block hS.2 2).trans rfl; have q3 := (cell_of_block hS.2 3).trans rfl; first | rfl | (go_simp; done)) ?_
      simp only [Act.put, List.setIfInBounds_toArray, List.set_cons_zero, List.set_cons_succ]
      refine wh_call 6 (some 36) 44 #[.agg #[.int .i64 x, .int .i64 y, .int .i64 u, .slice sa sn sc], .agg #[.int .i64 p, .string s, .int .i64 q, .slice ta tn tc]] (by kernel_rfl) rfl rfl (by rfl) (by kernel_rfl) ?_
      refine hFC.mono ?_
      rintro e3 w3 ⟨rfl, B3⟩
      have hSF : (fun W' : World => W'.heap[q7]? = some (.cells #[.int .i64 x, .int .i64 y, .int .i64 u, .slice sa sn sc] 61 (0, 0)) ∧ W'.heap[q9]? = some (.cells #[.int .i64 p, .string s, .int .i64 q, .slice ta tn tc] 64 (0, 0))) w3 := ⟨(B3.block _ (by omega)).trans hS0.1, (B3.block _ (by omega)).trans hS0.2⟩
      refine ⟨_, rfl, hSF, ?_⟩
      simp only [Act.put, List.setIfInBounds_toArray, List.set_cons_zero, List.set_cons_succ]
      refine wh_take 7 (some 37) (.bool R) rfl rfl (by kernel_rfl) (by kernel_rfl) (by kernel_rfl) (fun _ _ _ h => h) hSF (by rfl) (fun w' hS => by first | rfl | (go_simp; done)) ?_
      simp only [Act.put, List.setIfInBounds_toArray, List.set_cons_zero, List.set_cons_succ]
      have z1 : w3.heap[w.heap.size]? = _ := (B3.block _ (by omega)).trans hz12.out.1
      have z2 : w3.heap[w.heap.size + 1]? = _ := (B3.block _ (by omega)).trans hz12.out.2
      have hbF := below2 hbD B3
      clear hFC hS0 B3
      obtain ⟨G1, hG1⟩ : ∃ G : World, (((w3.setCell ⟨w.heap.size, 0, none⟩ (.int .i64 x)).setCell ⟨w.heap.size, 1, none⟩ (.int .i64 y)).setCell ⟨w.heap.size, 2, none⟩ (.int .i64 u)).setCell ⟨w.heap.size, 3, none⟩ (.slice sa sn sc) = G := ⟨_, rfl⟩
      obtain ⟨rG1, hGo1, hGs1, hGb1⟩ := set4 z1 _ _ _ _ hG1
      have z2' := (hGo1 _ (by omega)).trans z2
      obtain ⟨G2, hG2⟩ : ∃ G : World, (((G1.setCell ⟨w.heap.size + 1, 0, none⟩ (.int .i64 p)).setCell ⟨w.heap.size + 1, 1, none⟩ (.string s)).setCell ⟨w.heap.size + 1, 2, none⟩ (.int .i64 q)).setCell ⟨w.heap.size + 1, 3, none⟩ (.slice ta tn tc) = G := ⟨_, rfl⟩
      obtain ⟨rG2, hGo2, hGs2, hGb2⟩ := set4 z2' _ _ _ _ hG2
      have rG1' := (hGo2 w.heap.size (by omega)).trans rG1
      have bG2 := hGb2 _ _ (by omega) (hGb1 _ _ (Nat.le_refl _) hbF)
      have hSG1 : (fun W' : World => W'.heap[q7]? = some (.cells #[.int .i64 x, .int .i64 y, .int .i64 u, .slice sa sn sc] 61 (0, 0)) ∧ W'.heap[q9]? = some (.cells #[.int .i64 p, .string s, .int .i64 q, .slice ta tn tc] 64 (0, 0))) G1 := ⟨(hGo1 q7 (by omega)).trans hSF.1, (hGo1 q9 (by omega)).trans hSF.2⟩
      have hSG2 : (fun W' : World => W'.heap[q7]? = some (.cells #[.int .i64 x, .int .i64 y, .int .i64 u, .slice sa sn sc] 61 (0, 0)) ∧ W'.heap[q9]? = some (.cells #[.int .i64 p, .string s, .int .i64 q, .slice ta tn tc] 64 (0, 0))) G2 := ⟨(hGo2 q7 (by omega)).trans hSG1.1, (hGo2 q9 (by omega)).trans hSG1.2⟩
      have e0 := (cell_of_block z1 0).trans rfl
      have e1 := (cell_of_block z1 1).trans rfl
      have e2 := (cell_of_block z1 2).trans rfl
      have e3 := (cell_of_block z1 3).trans rfl
      have f0 := free_of_block z1 0
      have f1 := free_of_block z1 1
      have f2 := free_of_block z1 2
      have f3 := free_of_block z1 3
      have g0 := (cell_of_block z2' 0).trans rfl
      have g1 := (cell_of_block z2' 1).trans rfl
      have g2 := (cell_of_block z2' 2).trans rfl
      have g3 := (cell_of_block z2' 3).trans rfl
      have hh0 := free_of_block z2' 0
      have hh1 := free_of_block z2' 1
      have hh2 := free_of_block z2' 2
      have hh3 := free_of_block z2' 3
      have k0 := (cell_of_block rG1' 0).trans rfl
      have k1 := (cell_of_block rG1' 1).trans rfl
      have k2 := (cell_of_block rG1' 2).trans rfl
      have k3 := (cell_of_block rG1' 3).trans rfl
      have l0 := (cell_of_block rG2 0).trans rfl
      have l1 := (cell_of_block rG2 1).trans rfl
      have l2 := (cell_of_block rG2 2).trans rfl
      have l3 := (cell_of_block rG2 3).trans rfl
      refine wh_skip 8 none G1 (by kernel_rfl) rfl rfl (by rfl) (by rw [← hG1]; go_simp) hSG1 ?_
      simp only [Act.put]
      refine wh_skip 9 none G2 (by kernel_rfl) rfl rfl (by rfl) (by rw [← hG2]; go_simp) hSG2 ?_
      simp only [Act.put]
      refine wh_val 10 (some 6) (.bool R) G2 (by kernel_rfl) rfl rfl (by rfl) (by first | rfl | (go_simp; done)) hSG2 ?_
      simp only [Act.put, List.setIfInBounds_toArray, List.set_cons_zero, List.set_cons_succ]
      refine wh_done (by kernel_rfl) ?_
      clear hSG1 hSG2 hSF z1 z2 z2' rG1 rG2 rG1' hGo1 hGo2 hGb1 hGb2 hGs1 hGs2 hG1 hG2 e0 e1 e2 e3 g0 g1 g2 g3 f0 f1 f2 f3 hh0 hh1 hh2 hh3
      go_wp2
      exact bodyPost_ret (v := .tuple #[.agg #[.int .i64 x, .int .i64 y, .int .i64 u, .slice sa sn sc], .agg #[.int .i64 p, .string s, .int .i64 q, .slice ta tn tc], .bool R]) (by simp [results, Tryz.results25, go_sem, k0, k1, k2, k3, l0, l1, l2, l3]) rfl (by first | exact ⟨x, y, u, sa, sn, sc, p, s, q, ta, tn, tc, rfl, bG2⟩ | exact ⟨⟨x, y, u, sa, sn, sc, p, s, q, ta, tn, tc, rfl⟩, bG2⟩ | exact ⟨⟨x, y, u, sa, sn, sc, rfl, p, s, q, ta, tn, tc, rfl⟩, bG2⟩ | (refine ⟨?_, bG2⟩; simp))

end Go.Proofs.YtljnciclbjcinaaGreatDoor

namespace Go.Proofs.YtljnciclbjcinaaGreatDoor
open Go.ChangeShapes Go.WideShapes Go.ChangeAt Go.RowKit

def FitS (L : List Nd) (V : List Vn) (f g k v : Nat) : Prop := ∀ (w : World) (lo hi lo' hi' : Nat) (sl sl' : Value), S3 L lo hi f w k sl → hi ≤ w.heap.size → S3v V lo' hi' g w v sl' → hi' ≤ w.heap.size →
  Calls Tryz.prog 37 #[.agg #[.int .i64 (kdAt L k), .int .i64 (nAt L k), sl], .agg #[.int .i64 (vnAt V v), .string (vtAt V v), sl']] w fun e w' => e = .returned (.bool (fitM L V f k v)) ∧ Below w.heap.size w w'

set_option maxRecDepth 100000 in
set_option maxHeartbeats 3200000 in
theorem specFits_step (L : List Nd) (V : List Vn) (hG : goodT L = true) (hV : V.length ≤ 100) (hVs : ∀ x ∈ V, x.2.1.size ≤ 1048576) (f g k v : Nat) (hk : k < L.length) (hv : v < V.length) (IH0 : ∀ k' ∈ kidsOf L k, ∀ v' ∈ kV V v, FitS L V f g k' v') : FitS L V (f + 1) (g + 1) k v := by
  intro w lo hi lo' hi' sl sl' hr1 hhi hr2 hhi'
  obtain ⟨gx, gn, gn9, g40, _, _, gnil⟩ := gnode hG hk
  have hcV : (kV V v).length ≤ 100 := Nat.le_trans (kto_le _ _ _) hV
  have hsz : (vtAt V v).size ≤ 1048576 := by rw [vtAt_get V v hv]; exact hVs _ (List.getElem_mem hv)
  obtain ⟨a1, cap1, rfl, hc1, H1⟩ := hr1
  obtain ⟨a2, cap2, rfl, _, H2⟩ := hr2
  have HBD : Hid (∀ W, Calls Tryz.prog 62 #[.agg #[.int .i64 (kdAt L k), .int .i64 (nAt L k), .slice a1 (kidsOf L k).length cap1]] W fun e w' => e = .returned (.tuple #[.int .i64 (bdOf (kdAt L k) (nAt L k) (kidsOf L k).length).1, .int .i64 (bdOf (kdAt L k) (nAt L k) (kidsOf L k).length).2]) ∧ Below W.heap.size W w') := fun W => specBounds _ _ a1 _ cap1 W gx gn gn9 (by omega)
  have HKD : Hid (∀ W, Below w.heap.size w W → w.heap.size + 2 ≤ W.heap.size → tkOk (kdAt L k) (kidsOf L k) (vnAt V v) (kV V v).length →
      Calls Tryz.prog 38 #[.agg #[.int .i64 (kdAt L k), .int .i64 (nAt L k), .slice a1 (kidsOf L k).length cap1], .agg #[.int .i64 (vnAt V v), .string (vtAt V v), .slice a2 (kV V v).length cap2]] W fun e w' => ∃ b1 c1, e = .returned (.slice b1 (tk (kdAt L k) (kidsOf L k) (vnAt V v) (kV V v).length).length c1) ∧ Hid (∀ j (h : j < (tk (kdAt L k) (kidsOf L k) (vnAt V v) (kV V v).length).length), ∃ g off sl', b1 = some ⟨g, off, none⟩ ∧ g < w'.heap.size ∧
        w'.cell? ⟨g, off + j * 3, none⟩ = some (.int .i64 (kdAt L (tk (kdAt L k) (kidsOf L k) (vnAt V v) (kV V v).length)[j])) ∧ w'.cell? ⟨g, off + j * 3 + 1, none⟩ = some (.int .i64 (nAt L (tk (kdAt L k) (kidsOf L k) (vnAt V v) (kV V v).length)[j])) ∧ w'.cell? ⟨g, off + j * 3 + 2, none⟩ = some sl' ∧ S3 L (min lo W.heap.size) w'.heap.size f w' (tk (kdAt L k) (kidsOf L k) (vnAt V v) (kV V v).length)[j] sl') ∧ Below W.heap.size W w') := fun W hW hWs hok => by
    have H1' : ∀ j (h : j < (kidsOf L k).length), ∃ g off sl', a1 = some ⟨g, off, none⟩ ∧ lo ≤ g ∧ g < hi ∧ W.cell? ⟨g, off + j * 3, none⟩ = some (.int .i64 (kdAt L (kidsOf L k)[j])) ∧ W.cell? ⟨g, off + j * 3 + 1, none⟩ = some (.int .i64 (nAt L (kidsOf L k)[j])) ∧ W.cell? ⟨g, off + j * 3 + 2, none⟩ = some sl' ∧ S3 L lo hi f W (kidsOf L k)[j] sl' := by
      intro j hj
      obtain ⟨g9, off9, s9, x1, x2, x3, x4, x5, x6, x7⟩ := H1 j hj
      have hg := hW.block g9 (by omega)
      exact ⟨g9, off9, s9, x1, x2, x3, (cell_heap hg _).trans x4, (cell_heap hg _).trans x5, (cell_heap hg _).trans x6, R3.below x7 hW hhi⟩
    refine (specKids L f k W lo hi a1 cap1 (vnAt V v) (vtAt V v) a2 (kV V v).length cap2 hc1 H1' (Nat.le_trans hhi hW.size) hok).mono ?_
    rintro e w' ⟨sl9, rfl, ⟨b1, c1, rfl, _, H9⟩, hb9⟩
    refine ⟨b1, c1, rfl, fun j hj => ?_, hb9⟩
    obtain ⟨g9, off9, s9, x1, x2, x3, x4, x5, x6, x7⟩ := H9 j hj
    exact ⟨g9, off9, s9, x1, x3, x4, x5, x6, x7⟩
  have HTK : Hid (nOk (kdAt L k) (nAt L k) (kidsOf L k).length (vnAt V v) = true → tkOk (kdAt L k) (kidsOf L k) (vnAt V v) (kV V v).length) := fun h => tkOk_of hG hk hcV h
  rw [fitM_succ]
  have hm : ∀ k' ∈ tk (kdAt L k) (kidsOf L k) (vnAt V v) (kV V v).length, (kdAt L k = 13 → (kidsOf L k).length = 1) → k' ∈ kidsOf L k := by
    intro k' hk' h13
    unfold tk at hk'
    split at hk'
    · rename_i e
      have h1 := h13 e
      rw [(List.mem_replicate.1 hk').2, List.getD_eq_getElem?_getD, List.getElem?_eq_getElem (by omega), Option.getD_some]
      exact List.getElem_mem _
    · split at hk'
      · exact hk'
      · split at hk'
        · exact List.mem_of_mem_drop (List.mem_of_mem_take hk')
        · split at hk'
          · exact List.mem_of_mem_take hk'
          · simp at hk'
  have HKL : Hid ((tk (kdAt L k) (kidsOf L k) (vnAt V v) (kV V v).length).length ≤ 1000) := by
    unfold Hid tk
    split
    · rw [List.length_replicate]; omega
    · split
      · omega
      · split
        · rw [List.length_take]; omega
        · split
          · rw [List.length_take]; omega
          · simp
  have IH : Hid ((kdAt L k = 13 → (kidsOf L k).length = 1) → ∀ k' ∈ tk (kdAt L k) (kidsOf L k) (vnAt V v) (kV V v).length, ∀ v' ∈ kV V v, FitS L V f g k' v') := fun h13 k' hk' v' hv' => IH0 k' (hm k' hk' h13) v' hv'
  have K2 : Hid (∀ W, Below w.heap.size w W → ∀ j (h : j < (kV V v).length), ∃ gg off sl', a2 = some ⟨gg, off, none⟩ ∧ gg < w.heap.size ∧ W.cell? ⟨gg, off + j * 3, none⟩ = some (.int .i64 (vnAt V (kV V v)[j])) ∧ W.cell? ⟨gg, off + j * 3 + 1, none⟩ = some (.string (vtAt V (kV V v)[j])) ∧ W.cell? ⟨gg, off + j * 3 + 2, none⟩ = some sl' ∧ S3v V lo' hi' g W (kV V v)[j] sl') := fun W hW j hj => by
    obtain ⟨g9, off9, s9, x1, x2, x3, x4, x5, x6, x7⟩ := H2 j hj
    have hg := hW.block g9 (by omega)
    exact ⟨g9, off9, s9, x1, by omega, (cell_heap hg _).trans x4, (cell_heap hg _).trans x5, (cell_heap hg _).trans x6, R3.below x7 hW hhi'⟩
  have h13 : Hid (tkOk (kdAt L k) (kidsOf L k) (vnAt V v) (kV V v).length → kdAt L k = 13 → (kidsOf L k).length = 1) := fun h => h.2.1
  clear H1 H2 hm gx gn gn9 gnil IH0 g40 hcV
  obtain ⟨R, hR⟩ : ∃ R, Hid ((nOk (kdAt L k) (nAt L k) (kidsOf L k).length (vnAt V v) && tOk (kdAt L k) (vtAt V v) && fitL L V f (tk (kdAt L k) (kidsOf L k) (vnAt V v) (kV V v).length) (kV V v)) = R) := ⟨_, rfl⟩
  rw [hR.out]
  have HNU : Hid (nOk (kdAt L k) (nAt L k) (kidsOf L k).length (vnAt V v) = (decide ((bdOf (kdAt L k) (nAt L k) (kidsOf L k).length).1 ≤ vnAt V v) && decide (vnAt V v ≤ (bdOf (kdAt L k) (nAt L k) (kidsOf L k).length).2) && (if kdAt L k = 10 then canon (vnAt V v) else if kdAt L k = 11 then !(decide (55296 ≤ vnAt V v) && decide (vnAt V v ≤ 57343)) else true))) := rfl
  have H10 : Hid (kdAt L k = 10 → bdOf (kdAt L k) (nAt L k) (kidsOf L k).length = (0, 4294967295)) := fun h => by rw [h]; rfl
  obtain ⟨⟨bl, bh⟩, hbd⟩ : ∃ b, bdOf (kdAt L k) (nAt L k) (kidsOf L k).length = b := ⟨_, rfl⟩
  rw [hbd] at HBD HNU H10
  simp only at HBD HNU
  obtain ⟨NN, hNN⟩ : ∃ F, nOk (kdAt L k) (nAt L k) (kidsOf L k).length (vnAt V v) = F := ⟨_, rfl⟩
  obtain ⟨TX, hTX⟩ : ∃ F, Hid (tOk (kdAt L k) (vtAt V v) = F) := ⟨_, rfl⟩
  rw [hNN] at hR HNU HTK
  rw [hTX.out] at hR
  obtain ⟨ks, hks⟩ : ∃ ks, tk (kdAt L k) (kidsOf L k) (vnAt V v) (kV V v).length = ks := ⟨_, rfl⟩
  rw [hks] at hR HKD HKL IH
  obtain ⟨vs, hvs⟩ : ∃ vs, kV V v = vs := ⟨_, rfl⟩
  rw [hvs] at hR HKD IH HTK h13 K2 ⊢
  obtain ⟨x, hx⟩ : ∃ x, kdAt L k = x := ⟨_, rfl⟩
  obtain ⟨y, hy⟩ : ∃ x, nAt L k = x := ⟨_, rfl⟩
  obtain ⟨p, hp⟩ : ∃ x, vnAt V v = x := ⟨_, rfl⟩
  obtain ⟨s, hs⟩ : ∃ x, vtAt V v = x := ⟨_, rfl⟩
  obtain ⟨n1, hn1⟩ : ∃ x, (kidsOf L k).length = x := ⟨_, rfl⟩
  rw [hx, hy, hn1] at HBD
  rw [hx, hp] at HNU HTK h13
  rw [hx] at H10
  rw [hx, hs] at hTX
  rw [hn1] at h13 hc1
  rw [hx, hy, hp, hs, hn1] at HKD
  rw [hx, hn1] at IH
  rw [hs] at hsz
  rw [hx, hy, hp, hs, hn1]
  clear hx hy hp hs hn1 hks hvs hNN hbd
  obtain ⟨n2, hn2⟩ : ∃ x, vs.length = x := ⟨_, rfl⟩
  have HN2 : Hid (vs.length = n2) := hn2
  rw [hn2] at HKD HTK h13 ⊢
  clear hn2
  obtain ⟨W, hW⟩ : ∃ W, (w.alloc (.cells #[.int .i64 x, .int .i64 y, .slice a1 n1 cap1] 47)).alloc (.cells #[.int .i64 p, .string s, .slice a2 n2 cap2] 51) = W := ⟨_, rfl⟩
  have hb : Below w.heap.size w W := by rw [← hW]; exact ((Below.refl _ _).alloc (Nat.le_refl _) _).alloc (by simp) _
  have hWs : w.heap.size + 2 ≤ W.heap.size := by rw [← hW]; simp
  have hS0 : (fun W' : World => W'.heap[w.heap.size]? = some (.cells #[.int .i64 x, .int .i64 y, .slice a1 n1 cap1] 47 (0, 0)) ∧ W'.heap[w.heap.size + 1]? = some (.cells #[.int .i64 p, .string s, .slice a2 n2 cap2] 51 (0, 0))) W := by
    refine ⟨?_, ?_⟩
    · show W.heap[_]? = _
      rw [← hW]; exact (Below.heap_alloc _ _ _ (by simp)).trans (heap_alloc_new _ _)
    · show W.heap[_]? = _
      rw [← hW]
      have e : w.heap.size + 1 = (w.alloc (.cells #[.int .i64 x, .int .i64 y, .slice a1 n1 cap1] 47)).heap.size := by simp
      rw [e]
      exact heap_alloc_new _ _
  have HS : Hid (∀ A B : World, w.heap.size + 2 ≤ A.heap.size → Below A.heap.size A B → (fun W' : World => W'.heap[w.heap.size]? = some (.cells #[.int .i64 x, .int .i64 y, .slice a1 n1 cap1] 47 (0, 0)) ∧ W'.heap[w.heap.size + 1]? = some (.cells #[.int .i64 p, .string s, .slice a2 n2 cap2] 51 (0, 0))) A → (fun W' : World => W'.heap[w.heap.size]? = some (.cells #[.int .i64 x, .int .i64 y, .slice a1 n1 cap1] 47 (0, 0)) ∧ W'.heap[w.heap.size + 1]? = some (.cells #[.int .i64 p, .string s, .slice a2 n2 cap2] 51 (0, 0))) B) := fun A B hA hB h => ⟨(hB.block _ (by omega)).trans h.1, (hB.block _ (by omega)).trans h.2⟩
  have i0 := (cell_of_block hS0.1 0).trans rfl
  have i1 := (cell_of_block hS0.1 1).trans rfl
  have i2 := (cell_of_block hS0.1 2).trans rfl
  go_enter Tryz.func37, Tryz.ntmps37
  go_wp2_with fail
  refine (HBD.out _).mono ?_
  rintro e1 w1 ⟨rfl, B1⟩
  have hb1 := below2 hb B1
  have hw1s : w.heap.size + 2 ≤ w1.heap.size := by have := B1.size; omega
  have hS1 := HS.out W w1 hWs B1 hS0
  clear i0 i1 i2 hS0 hW hb B1 HBD
  have t0 := (cell_of_block hS1.1 0).trans rfl
  have t1 := (cell_of_block hS1.1 1).trans rfl
  have t2 := (cell_of_block hS1.1 2).trans rfl
  have v0 := (cell_of_block hS1.2 0).trans rfl
  have v1 := (cell_of_block hS1.2 1).trans rfl
  have v2 := (cell_of_block hS1.2 2).trans rfl
  obtain ⟨A, hA⟩ : ∃ A, Hid ((decide (bl ≤ p) && decide (p ≤ bh)) = A) := ⟨_, rfl⟩
  cases A with
  | false =>
    obtain rfl : R = false := by rw [← hR.out, HNU.out, hA.out]; rfl
    go_wp2_with (go_at_call 48; refine (in_eq _ _ _ _ (by assumption) _).mono ?_; rintro e w9 ⟨rfl, hw⟩; obtain rfl := hw.symm)
    go_ret
    exact ⟨rfl, hb1⟩
  | true =>
    go_wp2_with fail
    refine (in_eq _ _ _ _ hA _).mono ?_
    rintro e9 w9 ⟨rfl, hw⟩
    obtain rfl := hw.symm
    clear hw
    by_cases hx12 : x = 12
    · subst hx12
      have hD := specDecode s 1 hsz
      have hNN9 : NN = true := by rw [HNU.out, hA.out]; rfl
      have HTXs : Hid (TX = ((gd 1 s).isSome && decide (s.size ≤ 200))) := by unfold Hid; rw [← hTX.out]; rfl
      subst hNN9
      go_wp2_with fail
      refine (hD _).mono ?_
      rintro e8 w2 ⟨⟨Lp, pv, hg, rfl, ho⟩ | ⟨hg, pv, rfl⟩, B2⟩
      · have hb2 := below2 hb1 B2
        have hw2s : w.heap.size + 2 ≤ w2.heap.size := by have := B2.size; omega
        have hS2 := HS.out w1 w2 hw1s B2 hS1
        obtain ⟨pa, pc, rfl⟩ := ownsRow_shape ho
        rw [hg] at HTXs
        have k1 := (cell_of_block hS2.2 1).trans rfl
        clear t0 t1 t2 v0 v1 v2 hD ho hg
        obtain ⟨N, hN⟩ : ∃ N : Int, (s.size : Int) = N := ⟨_, rfl⟩
        by_cases h200 : 200 < N
        · obtain rfl : R = false := by
            rw [← hR.out, HTXs.out]
            have : ¬ s.size ≤ 200 := by omega
            simp [this]
          go_wp2
          go_ret
          exact ⟨rfl, hb2⟩
        · obtain rfl : TX = true := by
            rw [HTXs.out]
            have : s.size ≤ 200 := by omega
            simp [this]
          have HRF : Hid (fitL L V f ks vs = R) := by unfold Hid; rw [← hR.out]; simp
          have HOK : Hid (tkOk 12 (kidsOf L k) p n2) := HTK.out (by first | trivial | rfl)
          have HK := HKD.out w2 hb2 hw2s HOK.out
          have hbA : Below w.heap.size w w2 := hb2
          have hsA : w.heap.size + 2 ≤ w2.heap.size := hw2s
          have hSA : (fun W' : World => W'.heap[w.heap.size]? = some (.cells #[.int .i64 12, .int .i64 y, .slice a1 n1 cap1] 47 (0, 0)) ∧ W'.heap[w.heap.size + 1]? = some (.cells #[.int .i64 p, .string s, .slice a2 n2 cap2] 51 (0, 0))) w2 := hS2
          have IH9 := IH.out (h13.out HOK.out)
          have IHf : Hid (∀ k' ∈ ks, ∀ v' ∈ vs, FitS L V f g k' v') := IH9
          clear IH9 IH HTK h13 hTX HNU H10 hA hR HKD
          have t0' := (cell_of_block hSA.1 0).trans rfl
          have t1' := (cell_of_block hSA.1 1).trans rfl
          have t2' := (cell_of_block hSA.1 2).trans rfl
          have v0' := (cell_of_block hSA.2 0).trans rfl
          have v1' := (cell_of_block hSA.2 1).trans rfl
          have v2' := (cell_of_block hSA.2 2).trans rfl
          go_wp2_with fail
          refine HK.mono ?_
          rintro e5 w5 ⟨b1, c1, rfl, HROW, B5⟩
          have hb5 := below2 hbA B5
          have hs5 : w.heap.size + 2 ≤ w5.heap.size := by have := B5.size; omega
          have hS5 := HS.out w2 w5 hsA B5 hSA
          have u2 := (cell_of_block hS5.2 2).trans rfl
          clear HK t0' t1' t2' v0' v1' v2' hSA
          obtain ⟨kl, hkl⟩ : ∃ kl, ks.length = kl := ⟨_, rfl⟩
          have HKN : Hid (ks.length = kl) := hkl
          have hkl9 : kl ≤ 1000 := by rw [← hkl]; exact HKL.out
          rw [hkl]
          clear hkl
          by_cases hne : kl = n2
          · subst hne
            have HRZ : Hid ((ks.zip vs).all (fun p => fitM L V f p.1 p.2) = R) := by
              unfold Hid; rw [← HRF.out]; unfold fitL; rw [HKN.out, HN2.out]; simp
            have hzl : Hid ((ks.zip vs).length = kl) := by unfold Hid; rw [List.length_zip, HKN.out, HN2.out]; omega
            go_wp2
            go_loopw [73] (fun i wr => ∃ m : Nat, m ≤ kl ∧ i = .int .i64 (m : Int) ∧ Hid (((ks.zip vs).take m).all (fun p => fitM L V f p.1 p.2) = true) ∧ Below w5.heap.size w5 wr) (fun i _ => kl - (intOf i).toNat)
            case atStart => exact ⟨0, by omega, rfl, by simp [Hid], Below.refl _ _⟩
            case round =>
              clear u2
              obtain ⟨m, hm, rfl, hAl, hnx⟩ := hrel
              have hsz9 := hnx.size
              have hbr := below2 hb5 hnx
              by_cases hlt : m < kl
              · have hm1 : m < ks.length := by rw [HKN.out]; exact hlt
                have hm2 : m < vs.length := by rw [HN2.out]; exact hlt
                obtain ⟨g1, off1, s1, rfl, p1, c0, c1', c2, tr1⟩ := HROW.out m hm1
                obtain ⟨g2, off2, s2, rfl, r1, d0, d1, d2, tr2⟩ := K2.out wr hbr m hm2
                obtain ⟨sa1, sn1, sc1, rfl⟩ := R3.form tr1
                obtain ⟨sa2, sn2, sc2, rfl⟩ := R3.form tr2
                have hltI : (m : Int) < (kl : Int) := by omega
                have b0 := keepCell hnx p1 c0
                have b1' := keepCell hnx p1 c1'
                have b2 := keepCell hnx p1 c2
                have HF0 := fun (W : World) (hW : Below wr.heap.size wr W) => IHf.out ks[m] (List.getElem_mem hm1) vs[m] (List.getElem_mem hm2) W _ _ lo' hi' (.slice sa1 sn1 sc1) (.slice sa2 sn2 sc2) (R3.below (R3.below tr1 hnx (Nat.le_refl _)) hW hsz9) (Nat.le_trans hsz9 hW.size) (R3.below tr2 hW (by omega)) (by have := hW.size; omega)
                have HSC : Hid (((ks.zip vs).take (m + 1)).all (fun p => fitM L V f p.1 p.2) = fitM L V f ks[m] vs[m]) := by unfold Hid; rw [all_zip_succ hm1 hm2, hAl.out]; rfl
                have HBd : Hid (fitM L V f ks[m] vs[m] = false → R = false) := fun h => by rw [← HRZ.out]; exact all_zip_bad hm1 hm2 h
                obtain ⟨r, hr⟩ : ∃ r, fitM L V f ks[m] vs[m] = r := ⟨_, rfl⟩
                rw [hr] at HSC HBd
                obtain ⟨x0, hx0⟩ : ∃ x, kdAt L ks[m] = x := ⟨_, rfl⟩
                obtain ⟨y0, hy0⟩ : ∃ x, nAt L ks[m] = x := ⟨_, rfl⟩
                obtain ⟨p0, hp0⟩ : ∃ x, vnAt V vs[m] = x := ⟨_, rfl⟩
                obtain ⟨s0, hs0⟩ : ∃ x, vtAt V vs[m] = x := ⟨_, rfl⟩
                rw [hx0] at b0
                rw [hy0] at b1'
                rw [hp0] at d0
                rw [hs0] at d1
                have HF : Hid (∀ W, Below wr.heap.size wr W → Calls Tryz.prog 37 #[.agg #[.int .i64 x0, .int .i64 y0, .slice sa1 sn1 sc1], .agg #[.int .i64 p0, .string s0, .slice sa2 sn2 sc2]] W fun e w' => e = .returned (.bool r) ∧ Below W.heap.size W w') := fun W hW => by
                  have := HF0 W hW
                  rw [hx0, hy0, hp0, hs0, hr] at this
                  exact this
                clear HF0 hx0 hy0 hp0 hs0 hr tr1 tr2 c0 c1' c2
                obtain ⟨W3, hW3⟩ : ∃ W, wr.alloc (.cells #[.int .i64 x0, .int .i64 y0, .slice sa1 sn1 sc1] 47) = W := ⟨_, rfl⟩
                have bW3 : Below wr.heap.size wr W3 := by rw [← hW3]; exact (Below.refl _ _).alloc (Nat.le_refl _) _
                have q3 : W3.heap[wr.heap.size]? = some (.cells #[.int .i64 x0, .int .i64 y0, .slice sa1 sn1 sc1] 47 (0, 0)) := by rw [← hW3]; exact heap_alloc_new _ _
                have hS3 : (fun W' : World => W'.heap[wr.heap.size]? = some (.cells #[.int .i64 x0, .int .i64 y0, .slice sa1 sn1 sc1] 47 (0, 0)) ∧ W'.heap[w.heap.size + 1]? = some (.cells #[.int .i64 p, .string s, .slice (some ⟨g2, off2, none⟩) kl cap2] 51 (0, 0)) ∧ W'.cell? ⟨g2, off2 + m * 3, none⟩ = some (.int .i64 p0) ∧ W'.cell? ⟨g2, off2 + m * 3 + 1, none⟩ = some (.string s0) ∧ W'.cell? ⟨g2, off2 + m * 3 + 2, none⟩ = some (.slice sa2 sn2 sc2)) W3.drew := ⟨q3, (bW3.block _ (by omega)).trans ((hnx.block _ (by omega)).trans hS5.2), keepCell bW3.drew (by omega) d0, keepCell bW3.drew (by omega) d1, keepCell bW3.drew (by omega) d2⟩
                have HFC := HF.out W3.drew bW3.drew
                clear d0 d1 d2 q3
                go_wp2_with fail
                refine wh_begin (fun W' : World => W'.heap[wr.heap.size]? = some (.cells #[.int .i64 x0, .int .i64 y0, .slice sa1 sn1 sc1] 47 (0, 0)) ∧ W'.heap[w.heap.size + 1]? = some (.cells #[.int .i64 p, .string s, .slice (some ⟨g2, off2, none⟩) kl cap2] 51 (0, 0)) ∧ W'.cell? ⟨g2, off2 + m * 3, none⟩ = some (.int .i64 p0) ∧ W'.cell? ⟨g2, off2 + m * 3 + 1, none⟩ = some (.string s0) ∧ W'.cell? ⟨g2, off2 + m * 3 + 2, none⟩ = some (.slice sa2 sn2 sc2)) (by kernel_rfl) ?_
                refine wh_take 0 (some 78) (.agg #[.int .i64 x0, .int .i64 y0, .slice sa1 sn1 sc1]) rfl rfl (by kernel_rfl) (by kernel_rfl) (by kernel_rfl) (fun _ _ _ h => h) hS3 (by rfl) (fun w' hS => by have q0 := (cell_of_block hS.1 0).trans rfl; have q1 := (cell_of_block hS.1 1).trans rfl; have q2 := (cell_of_block hS.1 2).trans rfl; first | rfl | (go_simp; done)) ?_
                simp only [Act.put, List.setIfInBounds_toArray, List.set_cons_zero, List.set_cons_succ]
                refine wh_take 1 (some 79) (.pointer (some ⟨w.heap.size + 1, 2, none⟩)) rfl rfl (by kernel_rfl) (by kernel_rfl) (by kernel_rfl) (fun _ _ _ h => h) hS3 (by rfl) (fun w' hS => by first | rfl | (go_simp; done)) ?_
                simp only [Act.put, List.setIfInBounds_toArray, List.set_cons_zero, List.set_cons_succ]
                refine wh_take 2 (some 80) (.slice (some ⟨g2, off2, none⟩) kl cap2) rfl rfl (by kernel_rfl) (by kernel_rfl) (by kernel_rfl) (fun _ _ _ h => h) hS3 (by rfl) (fun w' hS => by have q2 := (cell_of_block hS.2.1 2).trans rfl; first | rfl | (go_simp; done)) ?_
                simp only [Act.put, List.setIfInBounds_toArray, List.set_cons_zero, List.set_cons_succ]
                refine wh_take 3 (some 81) (.int .i64 (m : Int)) rfl rfl (by kernel_rfl) (by kernel_rfl) (by kernel_rfl) (fun _ _ _ h => h) hS3 (by rfl) (fun w' hS => by first | rfl | (go_simp; done)) ?_
                simp only [Act.put, List.setIfInBounds_toArray, List.set_cons_zero, List.set_cons_succ]
                refine wh_take 4 (some 82) (.pointer (some ⟨g2, off2 + m * 3, none⟩)) rfl rfl (by kernel_rfl) (by kernel_rfl) (by kernel_rfl) (fun _ _ _ h => h) hS3 (by rfl) (fun w' hS => by first | rfl | (go_simp; done)) ?_
                simp only [Act.put, List.setIfInBounds_toArray, List.set_cons_zero, List.set_cons_succ]
                refine wh_take 5 (some 83) (.agg #[.int .i64 p0, .string s0, .slice sa2 sn2 sc2]) rfl rfl (by kernel_rfl) (by kernel_rfl) (by kernel_rfl) (fun _ _ _ h => h) hS3 (by rfl) (fun w' hS => by have q0 := hS.2.2.1; have q1 := hS.2.2.2.1; have q2 := hS.2.2.2.2; first | rfl | (go_simp; done)) ?_
                simp only [Act.put, List.setIfInBounds_toArray, List.set_cons_zero, List.set_cons_succ]
                refine wh_call 6 (some 84) 37 #[.agg #[.int .i64 x0, .int .i64 y0, .slice sa1 sn1 sc1], .agg #[.int .i64 p0, .string s0, .slice sa2 sn2 sc2]] (by kernel_rfl) rfl rfl (by rfl) (by kernel_rfl) ?_
                refine HFC.mono ?_
                rintro e6 w6 ⟨rfl, B6⟩
                have B6' : Below W3.heap.size W3 w6 := ⟨B6.os, B6.tape, B6.output, B6.size, B6.block⟩
                have b6 := below2 bW3 B6'
                have b56 : Below w5.heap.size w5 w6 := below2 hnx b6
                have hg2 : g2 < W3.heap.size := by have := bW3.size; omega
                have hS6 : W3.heap.size ≤ W3.heap.size := Nat.le_refl _
                refine ⟨_, rfl, ⟨(B6'.block _ (lt_of_block hS3.1)).trans hS3.1, (B6'.block _ (lt_of_block hS3.2.1)).trans hS3.2.1, keepCell B6' hg2 hS3.2.2.1, keepCell B6' hg2 hS3.2.2.2.1, keepCell B6' hg2 hS3.2.2.2.2⟩, ?_⟩
                simp only [Act.put, List.setIfInBounds_toArray, List.set_cons_zero, List.set_cons_succ]
                refine wh_val 7 (some 85) (.bool (!r)) w6 (by kernel_rfl) rfl rfl (by rfl) (by first | rfl | (go_simp; done)) ⟨(B6'.block _ (lt_of_block hS3.1)).trans hS3.1, (B6'.block _ (lt_of_block hS3.2.1)).trans hS3.2.1, keepCell B6' hg2 hS3.2.2.1, keepCell B6' hg2 hS3.2.2.2.1, keepCell B6' hg2 hS3.2.2.2.2⟩ ?_
                simp only [Act.put, List.setIfInBounds_toArray, List.set_cons_zero, List.set_cons_succ]
                refine wh_done (by kernel_rfl) ?_
                clear hS3 B6 B6' b6 HFC HF bW3 hW3 b0 b1' b2 hg2 hS6
                cases r with
                | false =>
                  obtain rfl : R = false := HBd.out rfl
                  go_wp2
                  go_ret
                  exact ⟨rfl, below2 hb5 b56⟩
                | true =>
                  go_wp2
                  go_roundw
                  case rel => exact ⟨m + 1, by omega, by go_num, HSC, b56⟩
                  case measure => simp [intOf]; omega
              · obtain rfl : m = kl := by omega
                have hzz : (ks.zip vs).take m = ks.zip vs := List.take_of_length_le (by rw [hzl.out]; exact Nat.le_refl _)
                obtain rfl : R = true := by rw [← HRZ.out, ← hAl.out, hzz]
                have hltI : ¬ (m : Int) < (m : Int) := by omega
                go_wp2
                go_ret
                exact ⟨rfl, hbr⟩
          · obtain rfl : R = false := by rw [← HRF.out]; unfold fitL; rw [HKN.out, HN2.out]; simp [hne]
            have hneI : ((kl : Int) == (n2 : Int)) = false := by rw [beq_eq_false_iff_ne]; omega
            go_wp2
            go_ret
            exact ⟨rfl, hb5⟩
      · obtain rfl : R = false := by rw [← hR.out, HTXs.out, hg]; simp
        have hb2 := below2 hb1 B2
        clear hD
        go_wp2
        go_ret
        exact ⟨rfl, hb2⟩
    · have e12 : (x == 12) = false := by rw [beq_eq_false_iff_ne]; exact hx12
      obtain ⟨E, hE⟩ : ∃ E, s.toList.isEmpty = E := ⟨_, rfl⟩
      have hTE : TX = E := by rw [← hTX.out, ← hE]; unfold tOk; rw [if_neg hx12]
      subst hTE
      cases TX with
      | false =>
        obtain rfl : R = false := by rw [← hR.out]; simp
        go_wp2
        go_ret
        exact ⟨rfl, hb1⟩
      | true =>
        have hTX9 : True := trivial
        by_cases hx10 : x = 10
        · subst hx10
          have hb9 := H10.out rfl
          simp at hb9
          obtain ⟨rfl, rfl⟩ := hb9
          have hA2 := hA.out
          simp at hA2
          have HC := specCanon p hA2.1 hA2.2
          obtain ⟨cn, hcn⟩ : ∃ c, canon p = c := ⟨_, rfl⟩
          rw [hcn] at HC
          obtain rfl : NN = cn := by rw [HNU.out, hA.out]; simp [hcn]
          clear hA2 hcn
          go_wp2_with fail
          refine (HC _).mono ?_
          rintro e8 w2 ⟨rfl, B2⟩
          have hb2 := below2 hb1 B2
          have hw2s : w.heap.size + 2 ≤ w2.heap.size := by have := B2.size; omega
          have hS2 := HS.out w1 w2 hw1s B2 hS1
          clear t0 t1 t2 v0 v1 v2 HC
          cases NN with
          | false =>
            obtain rfl : R = false := by rw [← hR.out]; rfl
            go_wp2
            go_ret
            exact ⟨rfl, hb2⟩
          | true =>
            have z0 := (cell_of_block hS2.1 0).trans rfl
            have HRF : Hid (fitL L V f ks vs = R) := by unfold Hid; rw [← hR.out]; simp
            have HOK : Hid (tkOk 10 (kidsOf L k) p n2) := HTK.out (by first | trivial | rfl)
            have HK := HKD.out w2 hb2 hw2s HOK.out
            have hbA : Below w.heap.size w w2 := hb2
            have hsA : w.heap.size + 2 ≤ w2.heap.size := hw2s
            have hSA : (fun W' : World => W'.heap[w.heap.size]? = some (.cells #[.int .i64 10, .int .i64 y, .slice a1 n1 cap1] 47 (0, 0)) ∧ W'.heap[w.heap.size + 1]? = some (.cells #[.int .i64 p, .string s, .slice a2 n2 cap2] 51 (0, 0))) w2 := hS2
            have IH9 := IH.out (h13.out HOK.out)
            have IHf : Hid (∀ k' ∈ ks, ∀ v' ∈ vs, FitS L V f g k' v') := IH9
            clear IH9 IH HTK h13 hTX HNU H10 hA hR HKD
            have t0' := (cell_of_block hSA.1 0).trans rfl
            have t1' := (cell_of_block hSA.1 1).trans rfl
            have t2' := (cell_of_block hSA.1 2).trans rfl
            have v0' := (cell_of_block hSA.2 0).trans rfl
            have v1' := (cell_of_block hSA.2 1).trans rfl
            have v2' := (cell_of_block hSA.2 2).trans rfl
            go_wp2_with fail
            refine HK.mono ?_
            rintro e5 w5 ⟨b1, c1, rfl, HROW, B5⟩
            have hb5 := below2 hbA B5
            have hs5 : w.heap.size + 2 ≤ w5.heap.size := by have := B5.size; omega
            have hS5 := HS.out w2 w5 hsA B5 hSA
            have u2 := (cell_of_block hS5.2 2).trans rfl
            clear HK t0' t1' t2' v0' v1' v2' hSA
            obtain ⟨kl, hkl⟩ : ∃ kl, ks.length = kl := ⟨_, rfl⟩
            have HKN : Hid (ks.length = kl) := hkl
            have hkl9 : kl ≤ 1000 := by rw [← hkl]; exact HKL.out
            rw [hkl]
            clear hkl
            by_cases hne : kl = n2
            · subst hne
              have HRZ : Hid ((ks.zip vs).all (fun p => fitM L V f p.1 p.2) = R) := by
                unfold Hid; rw [← HRF.out]; unfold fitL; rw [HKN.out, HN2.out]; simp
              have hzl : Hid ((ks.zip vs).length = kl) := by unfold Hid; rw [List.length_zip, HKN.out, HN2.out]; omega
              go_wp2
              go_loopw [73] (fun i wr => ∃ m : Nat, m ≤ kl ∧ i = .int .i64 (m : Int) ∧ Hid (((ks.zip vs).take m).all (fun p => fitM L V f p.1 p.2) = true) ∧ Below w5.heap.size w5 wr) (fun i _ => kl - (intOf i).toNat)
              case atStart => exact ⟨0, by omega, rfl, by simp [Hid], Below.refl _ _⟩
              case round =>
                clear u2
                obtain ⟨m, hm, rfl, hAl, hnx⟩ := hrel
                have hsz9 := hnx.size
                have hbr := below2 hb5 hnx
                by_cases hlt : m < kl
                · have hm1 : m < ks.length := by rw [HKN.out]; exact hlt
                  have hm2 : m < vs.length := by rw [HN2.out]; exact hlt
                  obtain ⟨g1, off1, s1, rfl, p1, c0, c1', c2, tr1⟩ := HROW.out m hm1
                  obtain ⟨g2, off2, s2, rfl, r1, d0, d1, d2, tr2⟩ := K2.out wr hbr m hm2
                  obtain ⟨sa1, sn1, sc1, rfl⟩ := R3.form tr1
                  obtain ⟨sa2, sn2, sc2, rfl⟩ := R3.form tr2
                  have hltI : (m : Int) < (kl : Int) := by omega
                  have b0 := keepCell hnx p1 c0
                  have b1' := keepCell hnx p1 c1'
                  have b2 := keepCell hnx p1 c2
                  have HF0 := fun (W : World) (hW : Below wr.heap.size wr W) => IHf.out ks[m] (List.getElem_mem hm1) vs[m] (List.getElem_mem hm2) W _ _ lo' hi' (.slice sa1 sn1 sc1) (.slice sa2 sn2 sc2) (R3.below (R3.below tr1 hnx (Nat.le_refl _)) hW hsz9) (Nat.le_trans hsz9 hW.size) (R3.below tr2 hW (by omega)) (by have := hW.size; omega)
                  have HSC : Hid (((ks.zip vs).take (m + 1)).all (fun p => fitM L V f p.1 p.2) = fitM L V f ks[m] vs[m]) := by unfold Hid; rw [all_zip_succ hm1 hm2, hAl.out]; rfl
                  have HBd : Hid (fitM L V f ks[m] vs[m] = false → R = false) := fun h => by rw [← HRZ.out]; exact all_zip_bad hm1 hm2 h
                  obtain ⟨r, hr⟩ : ∃ r, fitM L V f ks[m] vs[m] = r := ⟨_, rfl⟩
                  rw [hr] at HSC HBd
                  obtain ⟨x0, hx0⟩ : ∃ x, kdAt L ks[m] = x := ⟨_, rfl⟩
                  obtain ⟨y0, hy0⟩ : ∃ x, nAt L ks[m] = x := ⟨_, rfl⟩
                  obtain ⟨p0, hp0⟩ : ∃ x, vnAt V vs[m] = x := ⟨_, rfl⟩
                  obtain ⟨s0, hs0⟩ : ∃ x, vtAt V vs[m] = x := ⟨_, rfl⟩
                  rw [hx0] at b0
                  rw [hy0] at b1'
                  rw [hp0] at d0
                  rw [hs0] at d1
                  have HF : Hid (∀ W, Below wr.heap.size wr W → Calls Tryz.prog 37 #[.agg #[.int .i64 x0, .int .i64 y0, .slice sa1 sn1 sc1], .agg #[.int .i64 p0, .string s0, .slice sa2 sn2 sc2]] W fun e w' => e = .returned (.bool r) ∧ Below W.heap.size W w') := fun W hW => by
                    have := HF0 W hW
                    rw [hx0, hy0, hp0, hs0, hr] at this
                    exact this
                  clear HF0 hx0 hy0 hp0 hs0 hr tr1 tr2 c0 c1' c2
                  obtain ⟨W3, hW3⟩ : ∃ W, wr.alloc (.cells #[.int .i64 x0, .int .i64 y0, .slice sa1 sn1 sc1] 47) = W := ⟨_, rfl⟩
                  have bW3 : Below wr.heap.size wr W3 := by rw [← hW3]; exact (Below.refl _ _).alloc (Nat.le_refl _) _
                  have q3 : W3.heap[wr.heap.size]? = some (.cells #[.int .i64 x0, .int .i64 y0, .slice sa1 sn1 sc1] 47 (0, 0)) := by rw [← hW3]; exact heap_alloc_new _ _
                  have hS3 : (fun W' : World => W'.heap[wr.heap.size]? = some (.cells #[.int .i64 x0, .int .i64 y0, .slice sa1 sn1 sc1] 47 (0, 0)) ∧ W'.heap[w.heap.size + 1]? = some (.cells #[.int .i64 p, .string s, .slice (some ⟨g2, off2, none⟩) kl cap2] 51 (0, 0)) ∧ W'.cell? ⟨g2, off2 + m * 3, none⟩ = some (.int .i64 p0) ∧ W'.cell? ⟨g2, off2 + m * 3 + 1, none⟩ = some (.string s0) ∧ W'.cell? ⟨g2, off2 + m * 3 + 2, none⟩ = some (.slice sa2 sn2 sc2)) W3.drew := ⟨q3, (bW3.block _ (by omega)).trans ((hnx.block _ (by omega)).trans hS5.2), keepCell bW3.drew (by omega) d0, keepCell bW3.drew (by omega) d1, keepCell bW3.drew (by omega) d2⟩
                  have HFC := HF.out W3.drew bW3.drew
                  clear d0 d1 d2 q3
                  go_wp2_with fail
                  refine wh_begin (fun W' : World => W'.heap[wr.heap.size]? = some (.cells #[.int .i64 x0, .int .i64 y0, .slice sa1 sn1 sc1] 47 (0, 0)) ∧ W'.heap[w.heap.size + 1]? = some (.cells #[.int .i64 p, .string s, .slice (some ⟨g2, off2, none⟩) kl cap2] 51 (0, 0)) ∧ W'.cell? ⟨g2, off2 + m * 3, none⟩ = some (.int .i64 p0) ∧ W'.cell? ⟨g2, off2 + m * 3 + 1, none⟩ = some (.string s0) ∧ W'.cell? ⟨g2, off2 + m * 3 + 2, none⟩ = some (.slice sa2 sn2 sc2)) (by kernel_rfl) ?_
                  refine wh_take 0 (some 78) (.agg #[.int .i64 x0, .int .i64 y0, .slice sa1 sn1 sc1]) rfl rfl (by kernel_rfl) (by kernel_rfl) (by kernel_rfl) (fun _ _ _ h => h) hS3 (by rfl) (fun w' hS => by have q0 := (cell_of_block hS.1 0).trans rfl; have q1 := (cell_of_block hS.1 1).trans rfl; have q2 := (cell_of_block hS.1 2).trans rfl; first | rfl | (go_simp; done)) ?_
                  simp only [Act.put, List.setIfInBounds_toArray, List.set_cons_zero, List.set_cons_succ]
                  refine wh_take 1 (some 79) (.pointer (some ⟨w.heap.size + 1, 2, none⟩)) rfl rfl (by kernel_rfl) (by kernel_rfl) (by kernel_rfl) (fun _ _ _ h => h) hS3 (by rfl) (fun w' hS => by first | rfl | (go_simp; done)) ?_
                  simp only [Act.put, List.setIfInBounds_toArray, List.set_cons_zero, List.set_cons_succ]
                  refine wh_take 2 (some 80) (.slice (some ⟨g2, off2, none⟩) kl cap2) rfl rfl (by kernel_rfl) (by kernel_rfl) (by kernel_rfl) (fun _ _ _ h => h) hS3 (by rfl) (fun w' hS => by have q2 := (cell_of_block hS.2.1 2).trans rfl; first | rfl | (go_simp; done)) ?_
                  simp only [Act.put, List.setIfInBounds_toArray, List.set_cons_zero, List.set_cons_succ]
                  refine wh_take 3 (some 81) (.int .i64 (m : Int)) rfl rfl (by kernel_rfl) (by kernel_rfl) (by kernel_rfl) (fun _ _ _ h => h) hS3 (by rfl) (fun w' hS => by first | rfl | (go_simp; done)) ?_
                  simp only [Act.put, List.setIfInBounds_toArray, List.set_cons_zero, List.set_cons_succ]
                  refine wh_take 4 (some 82) (.pointer (some ⟨g2, off2 + m * 3, none⟩)) rfl rfl (by kernel_rfl) (by kernel_rfl) (by kernel_rfl) (fun _ _ _ h => h) hS3 (by rfl) (fun w' hS => by first | rfl | (go_simp; done)) ?_
                  simp only [Act.put, List.setIfInBounds_toArray, List.set_cons_zero, List.set_cons_succ]
                  refine wh_take 5 (some 83) (.agg #[.int .i64 p0, .string s0, .slice sa2 sn2 sc2]) rfl rfl (by kernel_rfl) (by kernel_rfl) (by kernel_rfl) (fun _ _ _ h => h) hS3 (by rfl) (fun w' hS => by have q0 := hS.2.2.1; have q1 := hS.2.2.2.1; have q2 := hS.2.2.2.2; first | rfl | (go_simp; done)) ?_
                  simp only [Act.put, List.setIfInBounds_toArray, List.set_cons_zero, List.set_cons_succ]
                  refine wh_call 6 (some 84) 37 #[.agg #[.int .i64 x0, .int .i64 y0, .slice sa1 sn1 sc1], .agg #[.int .i64 p0, .string s0, .slice sa2 sn2 sc2]] (by kernel_rfl) rfl rfl (by rfl) (by kernel_rfl) ?_
                  refine HFC.mono ?_
                  rintro e6 w6 ⟨rfl, B6⟩
                  have B6' : Below W3.heap.size W3 w6 := ⟨B6.os, B6.tape, B6.output, B6.size, B6.block⟩
                  have b6 := below2 bW3 B6'
                  have b56 : Below w5.heap.size w5 w6 := below2 hnx b6
                  have hg2 : g2 < W3.heap.size := by have := bW3.size; omega
                  have hS6 : W3.heap.size ≤ W3.heap.size := Nat.le_refl _
                  refine ⟨_, rfl, ⟨(B6'.block _ (lt_of_block hS3.1)).trans hS3.1, (B6'.block _ (lt_of_block hS3.2.1)).trans hS3.2.1, keepCell B6' hg2 hS3.2.2.1, keepCell B6' hg2 hS3.2.2.2.1, keepCell B6' hg2 hS3.2.2.2.2⟩, ?_⟩
                  simp only [Act.put, List.setIfInBounds_toArray, List.set_cons_zero, List.set_cons_succ]
                  refine wh_val 7 (some 85) (.bool (!r)) w6 (by kernel_rfl) rfl rfl (by rfl) (by first | rfl | (go_simp; done)) ⟨(B6'.block _ (lt_of_block hS3.1)).trans hS3.1, (B6'.block _ (lt_of_block hS3.2.1)).trans hS3.2.1, keepCell B6' hg2 hS3.2.2.1, keepCell B6' hg2 hS3.2.2.2.1, keepCell B6' hg2 hS3.2.2.2.2⟩ ?_
                  simp only [Act.put, List.setIfInBounds_toArray, List.set_cons_zero, List.set_cons_succ]
                  refine wh_done (by kernel_rfl) ?_
                  clear hS3 B6 B6' b6 HFC HF bW3 hW3 b0 b1' b2 hg2 hS6
                  cases r with
                  | false =>
                    obtain rfl : R = false := HBd.out rfl
                    go_wp2
                    go_ret
                    exact ⟨rfl, below2 hb5 b56⟩
                  | true =>
                    go_wp2
                    go_roundw
                    case rel => exact ⟨m + 1, by omega, by go_num, HSC, b56⟩
                    case measure => simp [intOf]; omega
                · obtain rfl : m = kl := by omega
                  have hzz : (ks.zip vs).take m = ks.zip vs := List.take_of_length_le (by rw [hzl.out]; exact Nat.le_refl _)
                  obtain rfl : R = true := by rw [← HRZ.out, ← hAl.out, hzz]
                  have hltI : ¬ (m : Int) < (m : Int) := by omega
                  go_wp2
                  go_ret
                  exact ⟨rfl, hbr⟩
            · obtain rfl : R = false := by rw [← HRF.out]; unfold fitL; rw [HKN.out, HN2.out]; simp [hne]
              have hneI : ((kl : Int) == (n2 : Int)) = false := by rw [beq_eq_false_iff_ne]; omega
              go_wp2
              go_ret
              exact ⟨rfl, hb5⟩
        · have e10 : (x == 10) = false := by rw [beq_eq_false_iff_ne]; exact hx10
          by_cases hx11 : x = 11
          · subst hx11
            obtain ⟨B, hB⟩ : ∃ B, Hid ((decide (55296 ≤ p) && decide (p ≤ 57343)) = B) := ⟨_, rfl⟩
            obtain rfl : NN = !B := by rw [HNU.out, hA.out, if_neg (by omega), if_pos rfl, hB.out]; rfl
            go_wp2_with fail
            refine (in_eq _ _ _ _ hB _).mono ?_
            rintro e8 w8 ⟨rfl, hw8⟩
            obtain rfl := hw8.symm
            clear hw8 hB
            cases B with
            | true =>
              obtain rfl : R = false := by rw [← hR.out]; rfl
              go_wp2
              go_ret
              exact ⟨rfl, hb1⟩
            | false =>
              have HRF : Hid (fitL L V f ks vs = R) := by unfold Hid; rw [← hR.out]; simp
              have HOK : Hid (tkOk 11 (kidsOf L k) p n2) := HTK.out (by first | trivial | rfl)
              have HK := HKD.out w1 hb1 hw1s HOK.out
              have hbA : Below w.heap.size w w1 := hb1
              have hsA : w.heap.size + 2 ≤ w1.heap.size := hw1s
              have hSA : (fun W' : World => W'.heap[w.heap.size]? = some (.cells #[.int .i64 11, .int .i64 y, .slice a1 n1 cap1] 47 (0, 0)) ∧ W'.heap[w.heap.size + 1]? = some (.cells #[.int .i64 p, .string s, .slice a2 n2 cap2] 51 (0, 0))) w1 := hS1
              have IH9 := IH.out (h13.out HOK.out)
              have IHf : Hid (∀ k' ∈ ks, ∀ v' ∈ vs, FitS L V f g k' v') := IH9
              clear IH9 IH HTK h13 hTX HNU H10 hA hR HKD
              have t0' := (cell_of_block hSA.1 0).trans rfl
              have t1' := (cell_of_block hSA.1 1).trans rfl
              have t2' := (cell_of_block hSA.1 2).trans rfl
              have v0' := (cell_of_block hSA.2 0).trans rfl
              have v1' := (cell_of_block hSA.2 1).trans rfl
              have v2' := (cell_of_block hSA.2 2).trans rfl
              go_wp2_with fail
              refine HK.mono ?_
              rintro e5 w5 ⟨b1, c1, rfl, HROW, B5⟩
              have hb5 := below2 hbA B5
              have hs5 : w.heap.size + 2 ≤ w5.heap.size := by have := B5.size; omega
              have hS5 := HS.out w1 w5 hsA B5 hSA
              have u2 := (cell_of_block hS5.2 2).trans rfl
              clear HK t0' t1' t2' v0' v1' v2' hSA
              obtain ⟨kl, hkl⟩ : ∃ kl, ks.length = kl := ⟨_, rfl⟩
              have HKN : Hid (ks.length = kl) := hkl
              have hkl9 : kl ≤ 1000 := by rw [← hkl]; exact HKL.out
              rw [hkl]
              clear hkl
              by_cases hne : kl = n2
              · subst hne
                have HRZ : Hid ((ks.zip vs).all (fun p => fitM L V f p.1 p.2) = R) := by
                  unfold Hid; rw [← HRF.out]; unfold fitL; rw [HKN.out, HN2.out]; simp
                have hzl : Hid ((ks.zip vs).length = kl) := by unfold Hid; rw [List.length_zip, HKN.out, HN2.out]; omega
                go_wp2
                go_loopw [73] (fun i wr => ∃ m : Nat, m ≤ kl ∧ i = .int .i64 (m : Int) ∧ Hid (((ks.zip vs).take m).all (fun p => fitM L V f p.1 p.2) = true) ∧ Below w5.heap.size w5 wr) (fun i _ => kl - (intOf i).toNat)
                case atStart => exact ⟨0, by omega, rfl, by simp [Hid], Below.refl _ _⟩
                case round =>
                  clear u2
                  obtain ⟨m, hm, rfl, hAl, hnx⟩ := hrel
                  have hsz9 := hnx.size
                  have hbr := below2 hb5 hnx
                  by_cases hlt : m < kl
                  · have hm1 : m < ks.length := by rw [HKN.out]; exact hlt
                    have hm2 : m < vs.length := by rw [HN2.out]; exact hlt
                    obtain ⟨g1, off1, s1, rfl, p1, c0, c1', c2, tr1⟩ := HROW.out m hm1
                    obtain ⟨g2, off2, s2, rfl, r1, d0, d1, d2, tr2⟩ := K2.out wr hbr m hm2
                    obtain ⟨sa1, sn1, sc1, rfl⟩ := R3.form tr1
                    obtain ⟨sa2, sn2, sc2, rfl⟩ := R3.form tr2
                    have hltI : (m : Int) < (kl : Int) := by omega
                    have b0 := keepCell hnx p1 c0
                    have b1' := keepCell hnx p1 c1'
                    have b2 := keepCell hnx p1 c2
                    have HF0 := fun (W : World) (hW : Below wr.heap.size wr W) => IHf.out ks[m] (List.getElem_mem hm1) vs[m] (List.getElem_mem hm2) W _ _ lo' hi' (.slice sa1 sn1 sc1) (.slice sa2 sn2 sc2) (R3.below (R3.below tr1 hnx (Nat.le_refl _)) hW hsz9) (Nat.le_trans hsz9 hW.size) (R3.below tr2 hW (by omega)) (by have := hW.size; omega)
                    have HSC : Hid (((ks.zip vs).take (m + 1)).all (fun p => fitM L V f p.1 p.2) = fitM L V f ks[m] vs[m]) := by unfold Hid; rw [all_zip_succ hm1 hm2, hAl.out]; rfl
                    have HBd : Hid (fitM L V f ks[m] vs[m] = false → R = false) := fun h => by rw [← HRZ.out]; exact all_zip_bad hm1 hm2 h
                    obtain ⟨r, hr⟩ : ∃ r, fitM L V f ks[m] vs[m] = r := ⟨_, rfl⟩
                    rw [hr] at HSC HBd
                    obtain ⟨x0, hx0⟩ : ∃ x, kdAt L ks[m] = x := ⟨_, rfl⟩
                    obtain ⟨y0, hy0⟩ : ∃ x, nAt L ks[m] = x := ⟨_, rfl⟩
                    obtain ⟨p0, hp0⟩ : ∃ x, vnAt V vs[m] = x := ⟨_, rfl⟩
                    obtain ⟨s0, hs0⟩ : ∃ x, vtAt V vs[m] = x := ⟨_, rfl⟩
                    rw [hx0] at b0
                    rw [hy0] at b1'
                    rw [hp0] at d0
                    rw [hs0] at d1
                    have HF : Hid (∀ W, Below wr.heap.size wr W → Calls Tryz.prog 37 #[.agg #[.int .i64 x0, .int .i64 y0, .slice sa1 sn1 sc1], .agg #[.int .i64 p0, .string s0, .slice sa2 sn2 sc2]] W fun e w' => e = .returned (.bool r) ∧ Below W.heap.size W w') := fun W hW => by
                      have := HF0 W hW
                      rw [hx0, hy0, hp0, hs0, hr] at this
                      exact this
                    clear HF0 hx0 hy0 hp0 hs0 hr tr1 tr2 c0 c1' c2
                    obtain ⟨W3, hW3⟩ : ∃ W, wr.alloc (.cells #[.int .i64 x0, .int .i64 y0, .slice sa1 sn1 sc1] 47) = W := ⟨_, rfl⟩
                    have bW3 : Below wr.heap.size wr W3 := by rw [← hW3]; exact (Below.refl _ _).alloc (Nat.le_refl _) _
                    have q3 : W3.heap[wr.heap.size]? = some (.cells #[.int .i64 x0, .int .i64 y0, .slice sa1 sn1 sc1] 47 (0, 0)) := by rw [← hW3]; exact heap_alloc_new _ _
                    have hS3 : (fun W' : World => W'.heap[wr.heap.size]? = some (.cells #[.int .i64 x0, .int .i64 y0, .slice sa1 sn1 sc1] 47 (0, 0)) ∧ W'.heap[w.heap.size + 1]? = some (.cells #[.int .i64 p, .string s, .slice (some ⟨g2, off2, none⟩) kl cap2] 51 (0, 0)) ∧ W'.cell? ⟨g2, off2 + m * 3, none⟩ = some (.int .i64 p0) ∧ W'.cell? ⟨g2, off2 + m * 3 + 1, none⟩ = some (.string s0) ∧ W'.cell? ⟨g2, off2 + m * 3 + 2, none⟩ = some (.slice sa2 sn2 sc2)) W3.drew := ⟨q3, (bW3.block _ (by omega)).trans ((hnx.block _ (by omega)).trans hS5.2), keepCell bW3.drew (by omega) d0, keepCell bW3.drew (by omega) d1, keepCell bW3.drew (by omega) d2⟩
                    have HFC := HF.out W3.drew bW3.drew
                    clear d0 d1 d2 q3
                    go_wp2_with fail
                    refine wh_begin (fun W' : World => W'.heap[wr.heap.size]? = some (.cells #[.int .i64 x0, .int .i64 y0, .slice sa1 sn1 sc1] 47 (0, 0)) ∧ W'.heap[w.heap.size + 1]? = some (.cells #[.int .i64 p, .string s, .slice (some ⟨g2, off2, none⟩) kl cap2] 51 (0, 0)) ∧ W'.cell? ⟨g2, off2 + m * 3, none⟩ = some (.int .i64 p0) ∧ W'.cell? ⟨g2, off2 + m * 3 + 1, none⟩ = some (.string s0) ∧ W'.cell? ⟨g2, off2 + m * 3 + 2, none⟩ = some (.slice sa2 sn2 sc2)) (by kernel_rfl) ?_
                    refine wh_take 0 (some 78) (.agg #[.int .i64 x0, .int .i64 y0, .slice sa1 sn1 sc1]) rfl rfl (by kernel_rfl) (by kernel_rfl) (by kernel_rfl) (fun _ _ _ h => h) hS3 (by rfl) (fun w' hS => by have q0 := (cell_of_block hS.1 0).trans rfl; have q1 := (cell_of_block hS.1 1).trans rfl; have q2 := (cell_of_block hS.1 2).trans rfl; first | rfl | (go_simp; done)) ?_
                    simp only [Act.put, List.setIfInBounds_toArray, List.set_cons_zero, List.set_cons_succ]
                    refine wh_take 1 (some 79) (.pointer (some ⟨w.heap.size + 1, 2, none⟩)) rfl rfl (by kernel_rfl) (by kernel_rfl) (by kernel_rfl) (fun _ _ _ h => h) hS3 (by rfl) (fun w' hS => by first | rfl | (go_simp; done)) ?_
                    simp only [Act.put, List.setIfInBounds_toArray, List.set_cons_zero, List.set_cons_succ]
                    refine wh_take 2 (some 80) (.slice (some ⟨g2, off2, none⟩) kl cap2) rfl rfl (by kernel_rfl) (by kernel_rfl) (by kernel_rfl) (fun _ _ _ h => h) hS3 (by rfl) (fun w' hS => by have q2 := (cell_of_block hS.2.1 2).trans rfl; first | rfl | (go_simp; done)) ?_
                    simp only [Act.put, List.setIfInBounds_toArray, List.set_cons_zero, List.set_cons_succ]
                    refine wh_take 3 (some 81) (.int .i64 (m : Int)) rfl rfl (by kernel_rfl) (by kernel_rfl) (by kernel_rfl) (fun _ _ _ h => h) hS3 (by rfl) (fun w' hS => by first | rfl | (go_simp; done)) ?_
                    simp only [Act.put, List.setIfInBounds_toArray, List.set_cons_zero, List.set_cons_succ]
                    refine wh_take 4 (some 82) (.pointer (some ⟨g2, off2 + m * 3, none⟩)) rfl rfl (by kernel_rfl) (by kernel_rfl) (by kernel_rfl) (fun _ _ _ h => h) hS3 (by rfl) (fun w' hS => by first | rfl | (go_simp; done)) ?_
                    simp only [Act.put, List.setIfInBounds_toArray, List.set_cons_zero, List.set_cons_succ]
                    refine wh_take 5 (some 83) (.agg #[.int .i64 p0, .string s0, .slice sa2 sn2 sc2]) rfl rfl (by kernel_rfl) (by kernel_rfl) (by kernel_rfl) (fun _ _ _ h => h) hS3 (by rfl) (fun w' hS => by have q0 := hS.2.2.1; have q1 := hS.2.2.2.1; have q2 := hS.2.2.2.2; first | rfl | (go_simp; done)) ?_
                    simp only [Act.put, List.setIfInBounds_toArray, List.set_cons_zero, List.set_cons_succ]
                    refine wh_call 6 (some 84) 37 #[.agg #[.int .i64 x0, .int .i64 y0, .slice sa1 sn1 sc1], .agg #[.int .i64 p0, .string s0, .slice sa2 sn2 sc2]] (by kernel_rfl) rfl rfl (by rfl) (by kernel_rfl) ?_
                    refine HFC.mono ?_
                    rintro e6 w6 ⟨rfl, B6⟩
                    have B6' : Below W3.heap.size W3 w6 := ⟨B6.os, B6.tape, B6.output, B6.size, B6.block⟩
                    have b6 := below2 bW3 B6'
                    have b56 : Below w5.heap.size w5 w6 := below2 hnx b6
                    have hg2 : g2 < W3.heap.size := by have := bW3.size; omega
                    have hS6 : W3.heap.size ≤ W3.heap.size := Nat.le_refl _
                    refine ⟨_, rfl, ⟨(B6'.block _ (lt_of_block hS3.1)).trans hS3.1, (B6'.block _ (lt_of_block hS3.2.1)).trans hS3.2.1, keepCell B6' hg2 hS3.2.2.1, keepCell B6' hg2 hS3.2.2.2.1, keepCell B6' hg2 hS3.2.2.2.2⟩, ?_⟩
                    simp only [Act.put, List.setIfInBounds_toArray, List.set_cons_zero, List.set_cons_succ]
                    refine wh_val 7 (some 85) (.bool (!r)) w6 (by kernel_rfl) rfl rfl (by rfl) (by first | rfl | (go_simp; done)) ⟨(B6'.block _ (lt_of_block hS3.1)).trans hS3.1, (B6'.block _ (lt_of_block hS3.2.1)).trans hS3.2.1, keepCell B6' hg2 hS3.2.2.1, keepCell B6' hg2 hS3.2.2.2.1, keepCell B6' hg2 hS3.2.2.2.2⟩ ?_
                    simp only [Act.put, List.setIfInBounds_toArray, List.set_cons_zero, List.set_cons_succ]
                    refine wh_done (by kernel_rfl) ?_
                    clear hS3 B6 B6' b6 HFC HF bW3 hW3 b0 b1' b2 hg2 hS6
                    cases r with
                    | false =>
                      obtain rfl : R = false := HBd.out rfl
                      go_wp2
                      go_ret
                      exact ⟨rfl, below2 hb5 b56⟩
                    | true =>
                      go_wp2
                      go_roundw
                      case rel => exact ⟨m + 1, by omega, by go_num, HSC, b56⟩
                      case measure => simp [intOf]; omega
                  · obtain rfl : m = kl := by omega
                    have hzz : (ks.zip vs).take m = ks.zip vs := List.take_of_length_le (by rw [hzl.out]; exact Nat.le_refl _)
                    obtain rfl : R = true := by rw [← HRZ.out, ← hAl.out, hzz]
                    have hltI : ¬ (m : Int) < (m : Int) := by omega
                    go_wp2
                    go_ret
                    exact ⟨rfl, hbr⟩
              · obtain rfl : R = false := by rw [← HRF.out]; unfold fitL; rw [HKN.out, HN2.out]; simp [hne]
                have hneI : ((kl : Int) == (n2 : Int)) = false := by rw [beq_eq_false_iff_ne]; omega
                go_wp2
                go_ret
                exact ⟨rfl, hb5⟩
          · have e11 : (x == 11) = false := by rw [beq_eq_false_iff_ne]; exact hx11
            obtain rfl : NN = true := by rw [HNU.out, hA.out, if_neg hx10, if_neg hx11]; rfl
            have HRF : Hid (fitL L V f ks vs = R) := by unfold Hid; rw [← hR.out]; simp
            have HOK : Hid (tkOk x (kidsOf L k) p n2) := HTK.out (by trivial)
            have HK := HKD.out w1 hb1 hw1s HOK.out
            have hbA : Below w.heap.size w w1 := hb1
            have hsA : w.heap.size + 2 ≤ w1.heap.size := hw1s
            have hSA : (fun W' : World => W'.heap[w.heap.size]? = some (.cells #[.int .i64 x, .int .i64 y, .slice a1 n1 cap1] 47 (0, 0)) ∧ W'.heap[w.heap.size + 1]? = some (.cells #[.int .i64 p, .string s, .slice a2 n2 cap2] 51 (0, 0))) w1 := hS1
            have IH9 := IH.out (h13.out HOK.out)
            have IHf : Hid (∀ k' ∈ ks, ∀ v' ∈ vs, FitS L V f g k' v') := IH9
            clear IH9 IH HTK h13 hTX HNU H10 hA hR HKD
            have t0' := (cell_of_block hSA.1 0).trans rfl
            have t1' := (cell_of_block hSA.1 1).trans rfl
            have t2' := (cell_of_block hSA.1 2).trans rfl
            have v0' := (cell_of_block hSA.2 0).trans rfl
            have v1' := (cell_of_block hSA.2 1).trans rfl
            have v2' := (cell_of_block hSA.2 2).trans rfl
            go_wp2_with fail
            refine HK.mono ?_
            rintro e5 w5 ⟨b1, c1, rfl, HROW, B5⟩
            have hb5 := below2 hbA B5
            have hs5 : w.heap.size + 2 ≤ w5.heap.size := by have := B5.size; omega
            have hS5 := HS.out w1 w5 hsA B5 hSA
            have u2 := (cell_of_block hS5.2 2).trans rfl
            clear HK t0' t1' t2' v0' v1' v2' hSA
            obtain ⟨kl, hkl⟩ : ∃ kl, ks.length = kl := ⟨_, rfl⟩
            have HKN : Hid (ks.length = kl) := hkl
            have hkl9 : kl ≤ 1000 := by rw [← hkl]; exact HKL.out
            rw [hkl]
            clear hkl
            by_cases hne : kl = n2
            · subst hne
              have HRZ : Hid ((ks.zip vs).all (fun p => fitM L V f p.1 p.2) = R) := by
                unfold Hid; rw [← HRF.out]; unfold fitL; rw [HKN.out, HN2.out]; simp
              have hzl : Hid ((ks.zip vs).length = kl) := by unfold Hid; rw [List.length_zip, HKN.out, HN2.out]; omega
              go_wp2
              go_loopw [73] (fun i wr => ∃ m : Nat, m ≤ kl ∧ i = .int .i64 (m : Int) ∧ Hid (((ks.zip vs).take m).all (fun p => fitM L V f p.1 p.2) = true) ∧ Below w5.heap.size w5 wr) (fun i _ => kl - (intOf i).toNat)
              case atStart => exact ⟨0, by omega, rfl, by simp [Hid], Below.refl _ _⟩
              case round =>
                clear u2
                obtain ⟨m, hm, rfl, hAl, hnx⟩ := hrel
                have hsz9 := hnx.size
                have hbr := below2 hb5 hnx
                by_cases hlt : m < kl
                · have hm1 : m < ks.length := by rw [HKN.out]; exact hlt
                  have hm2 : m < vs.length := by rw [HN2.out]; exact hlt
                  obtain ⟨g1, off1, s1, rfl, p1, c0, c1', c2, tr1⟩ := HROW.out m hm1
                  obtain ⟨g2, off2, s2, rfl, r1, d0, d1, d2, tr2⟩ := K2.out wr hbr m hm2
                  obtain ⟨sa1, sn1, sc1, rfl⟩ := R3.form tr1
                  obtain ⟨sa2, sn2, sc2, rfl⟩ := R3.form tr2
                  have hltI : (m : Int) < (kl : Int) := by omega
                  have b0 := keepCell hnx p1 c0
                  have b1' := keepCell hnx p1 c1'
                  have b2 := keepCell hnx p1 c2
                  have HF0 := fun (W : World) (hW : Below wr.heap.size wr W) => IHf.out ks[m] (List.getElem_mem hm1) vs[m] (List.getElem_mem hm2) W _ _ lo' hi' (.slice sa1 sn1 sc1) (.slice sa2 sn2 sc2) (R3.below (R3.below tr1 hnx (Nat.le_refl _)) hW hsz9) (Nat.le_trans hsz9 hW.size) (R3.below tr2 hW (by omega)) (by have := hW.size; omega)
                  have HSC : Hid (((ks.zip vs).take (m + 1)).all (fun p => fitM L V f p.1 p.2) = fitM L V f ks[m] vs[m]) := by unfold Hid; rw [all_zip_succ hm1 hm2, hAl.out]; rfl
                  have HBd : Hid (fitM L V f ks[m] vs[m] = false → R = false) := fun h => by rw [← HRZ.out]; exact all_zip_bad hm1 hm2 h
                  obtain ⟨r, hr⟩ : ∃ r, fitM L V f ks[m] vs[m] = r := ⟨_, rfl⟩
                  rw [hr] at HSC HBd
                  obtain ⟨x0, hx0⟩ : ∃ x, kdAt L ks[m] = x := ⟨_, rfl⟩
                  obtain ⟨y0, hy0⟩ : ∃ x, nAt L ks[m] = x := ⟨_, rfl⟩
                  obtain ⟨p0, hp0⟩ : ∃ x, vnAt V vs[m] = x := ⟨_, rfl⟩
                  obtain ⟨s0, hs0⟩ : ∃ x, vtAt V vs[m] = x := ⟨_, rfl⟩
                  rw [hx0] at b0
                  rw [hy0] at b1'
                  rw [hp0] at d0
                  rw [hs0] at d1
                  have HF : Hid (∀ W, Below wr.heap.size wr W → Calls Tryz.prog 37 #[.agg #[.int .i64 x0, .int .i64 y0, .slice sa1 sn1 sc1], .agg #[.int .i64 p0, .string s0, .slice sa2 sn2 sc2]] W fun e w' => e = .returned (.bool r) ∧ Below W.heap.size W w') := fun W hW => by
                    have := HF0 W hW
                    rw [hx0, hy0, hp0, hs0, hr] at this
                    exact this
                  clear HF0 hx0 hy0 hp0 hs0 hr tr1 tr2 c0 c1' c2
                  obtain ⟨W3, hW3⟩ : ∃ W, wr.alloc (.cells #[.int .i64 x0, .int .i64 y0, .slice sa1 sn1 sc1] 47) = W := ⟨_, rfl⟩
                  have bW3 : Below wr.heap.size wr W3 := by rw [← hW3]; exact (Below.refl _ _).alloc (Nat.le_refl _) _
                  have q3 : W3.heap[wr.heap.size]? = some (.cells #[.int .i64 x0, .int .i64 y0, .slice sa1 sn1 sc1] 47 (0, 0)) := by rw [← hW3]; exact heap_alloc_new _ _
                  have hS3 : (fun W' : World => W'.heap[wr.heap.size]? = some (.cells #[.int .i64 x0, .int .i64 y0, .slice sa1 sn1 sc1] 47 (0, 0)) ∧ W'.heap[w.heap.size + 1]? = some (.cells #[.int .i64 p, .string s, .slice (some ⟨g2, off2, none⟩) kl cap2] 51 (0, 0)) ∧ W'.cell? ⟨g2, off2 + m * 3, none⟩ = some (.int .i64 p0) ∧ W'.cell? ⟨g2, off2 + m * 3 + 1, none⟩ = some (.string s0) ∧ W'.cell? ⟨g2, off2 + m * 3 + 2, none⟩ = some (.slice sa2 sn2 sc2)) W3.drew := ⟨q3, (bW3.block _ (by omega)).trans ((hnx.block _ (by omega)).trans hS5.2), keepCell bW3.drew (by omega) d0, keepCell bW3.drew (by omega) d1, keepCell bW3.drew (by omega) d2⟩
                  have HFC := HF.out W3.drew bW3.drew
                  clear d0 d1 d2 q3
                  go_wp2_with fail
                  refine wh_begin (fun W' : World => W'.heap[wr.heap.size]? = some (.cells #[.int .i64 x0, .int .i64 y0, .slice sa1 sn1 sc1] 47 (0, 0)) ∧ W'.heap[w.heap.size + 1]? = some (.cells #[.int .i64 p, .string s, .slice (some ⟨g2, off2, none⟩) kl cap2] 51 (0, 0)) ∧ W'.cell? ⟨g2, off2 + m * 3, none⟩ = some (.int .i64 p0) ∧ W'.cell? ⟨g2, off2 + m * 3 + 1, none⟩ = some (.string s0) ∧ W'.cell? ⟨g2, off2 + m * 3 + 2, none⟩ = some (.slice sa2 sn2 sc2)) (by kernel_rfl) ?_
                  refine wh_take 0 (some 78) (.agg #[.int .i64 x0, .int .i64 y0, .slice sa1 sn1 sc1]) rfl rfl (by kernel_rfl) (by kernel_rfl) (by kernel_rfl) (fun _ _ _ h => h) hS3 (by rfl) (fun w' hS => by have q0 := (cell_of_block hS.1 0).trans rfl; have q1 := (cell_of_block hS.1 1).trans rfl; have q2 := (cell_of_block hS.1 2).trans rfl; first | rfl | (go_simp; done)) ?_
                  simp only [Act.put, List.setIfInBounds_toArray, List.set_cons_zero, List.set_cons_succ]
                  refine wh_take 1 (some 79) (.pointer (some ⟨w.heap.size + 1, 2, none⟩)) rfl rfl (by kernel_rfl) (by kernel_rfl) (by kernel_rfl) (fun _ _ _ h => h) hS3 (by rfl) (fun w' hS => by first | rfl | (go_simp; done)) ?_
                  simp only [Act.put, List.setIfInBounds_toArray, List.set_cons_zero, List.set_cons_succ]
                  refine wh_take 2 (some 80) (.slice (some ⟨g2, off2, none⟩) kl cap2) rfl rfl (by kernel_rfl) (by kernel_rfl) (by kernel_rfl) (fun _ _ _ h => h) hS3 (by rfl) (fun w' hS => by have q2 := (cell_of_block hS.2.1 2).trans rfl; first | rfl | (go_simp; done)) ?_
                  simp only [Act.put, List.setIfInBounds_toArray, List.set_cons_zero, List.set_cons_succ]
                  refine wh_take 3 (some 81) (.int .i64 (m : Int)) rfl rfl (by kernel_rfl) (by kernel_rfl) (by kernel_rfl) (fun _ _ _ h => h) hS3 (by rfl) (fun w' hS => by first | rfl | (go_simp; done)) ?_
                  simp only [Act.put, List.setIfInBounds_toArray, List.set_cons_zero, List.set_cons_succ]
                  refine wh_take 4 (some 82) (.pointer (some ⟨g2, off2 + m * 3, none⟩)) rfl rfl (by kernel_rfl) (by kernel_rfl) (by kernel_rfl) (fun _ _ _ h => h) hS3 (by rfl) (fun w' hS => by first | rfl | (go_simp; done)) ?_
                  simp only [Act.put, List.setIfInBounds_toArray, List.set_cons_zero, List.set_cons_succ]
                  refine wh_take 5 (some 83) (.agg #[.int .i64 p0, .string s0, .slice sa2 sn2 sc2]) rfl rfl (by kernel_rfl) (by kernel_rfl) (by kernel_rfl) (fun _ _ _ h => h) hS3 (by rfl) (fun w' hS => by have q0 := hS.2.2.1; have q1 := hS.2.2.2.1; have q2 := hS.2.2.2.2; first | rfl | (go_simp; done)) ?_
                  simp only [Act.put, List.setIfInBounds_toArray, List.set_cons_zero, List.set_cons_succ]
                  refine wh_call 6 (some 84) 37 #[.agg #[.int .i64 x0, .int .i64 y0, .slice sa1 sn1 sc1], .agg #[.int .i64 p0, .string s0, .slice sa2 sn2 sc2]] (by kernel_rfl) rfl rfl (by rfl) (by kernel_rfl) ?_
                  refine HFC.mono ?_
                  rintro e6 w6 ⟨rfl, B6⟩
                  have B6' : Below W3.heap.size W3 w6 := ⟨B6.os, B6.tape, B6.output, B6.size, B6.block⟩
                  have b6 := below2 bW3 B6'
                  have b56 : Below w5.heap.size w5 w6 := below2 hnx b6
                  have hg2 : g2 < W3.heap.size := by have := bW3.size; omega
                  have hS6 : W3.heap.size ≤ W3.heap.size := Nat.le_refl _
                  refine ⟨_, rfl, ⟨(B6'.block _ (lt_of_block hS3.1)).trans hS3.1, (B6'.block _ (lt_of_block hS3.2.1)).trans hS3.2.1, keepCell B6' hg2 hS3.2.2.1, keepCell B6' hg2 hS3.2.2.2.1, keepCell B6' hg2 hS3.2.2.2.2⟩, ?_⟩
                  simp only [Act.put, List.setIfInBounds_toArray, List.set_cons_zero, List.set_cons_succ]
                  refine wh_val 7 (some 85) (.bool (!r)) w6 (by kernel_rfl) rfl rfl (by rfl) (by first | rfl | (go_simp; done)) ⟨(B6'.block _ (lt_of_block hS3.1)).trans hS3.1, (B6'.block _ (lt_of_block hS3.2.1)).trans hS3.2.1, keepCell B6' hg2 hS3.2.2.1, keepCell B6' hg2 hS3.2.2.2.1, keepCell B6' hg2 hS3.2.2.2.2⟩ ?_
                  simp only [Act.put, List.setIfInBounds_toArray, List.set_cons_zero, List.set_cons_succ]
                  refine wh_done (by kernel_rfl) ?_
                  clear hS3 B6 B6' b6 HFC HF bW3 hW3 b0 b1' b2 hg2 hS6
                  cases r with
                  | false =>
                    obtain rfl : R = false := HBd.out rfl
                    go_wp2
                    go_ret
                    exact ⟨rfl, below2 hb5 b56⟩
                  | true =>
                    go_wp2
                    go_roundw
                    case rel => exact ⟨m + 1, by omega, by go_num, HSC, b56⟩
                    case measure => simp [intOf]; omega
                · obtain rfl : m = kl := by omega
                  have hzz : (ks.zip vs).take m = ks.zip vs := List.take_of_length_le (by rw [hzl.out]; exact Nat.le_refl _)
                  obtain rfl : R = true := by rw [← HRZ.out, ← hAl.out, hzz]
                  have hltI : ¬ (m : Int) < (m : Int) := by omega
                  go_wp2
                  go_ret
                  exact ⟨rfl, hbr⟩
            · obtain rfl : R = false := by rw [← HRF.out]; unfold fitL; rw [HKN.out, HN2.out]; simp [hne]
              have hneI : ((kl : Int) == (n2 : Int)) = false := by rw [beq_eq_false_iff_ne]; omega
              go_wp2
              go_ret
              exact ⟨rfl, hb5⟩

theorem specFits (L : List Nd) (V : List Vn) (hG : goodT L = true) (hV : V.length ≤ 100) (hVs : ∀ x ∈ V, x.2.1.size ≤ 1048576) : ∀ (f g k v : Nat), k < L.length → v < V.length → FitS L V f g k v
  | 0, _, _, _, _, _ => fun _ _ _ _ _ _ _ h => h.elim
  | _ + 1, 0, _, _, _, _ => fun _ _ _ _ _ _ _ _ _ h => h.elim
  | f + 1, g + 1, k, v, hk, hv => specFits_step L V hG hV hVs f g k v hk hv (fun k' hk' v' hv' => specFits L V hG hV hVs f g k' v' (kids_mem hk').2 (kto_mem.1 hv').1)

end Go.Proofs.YtljnciclbjcinaaGreatDoor

namespace Go.Proofs.YtljnciclbjcinaaGreatDoor
open Go.ChangeShapes Go.WideShapes Go.ChangeAt Go.RowKit

set_option maxRecDepth 100000 in
set_option maxHeartbeats 1600000 in
theorem specFitsType (a a' : Option Addr) (b off cap b' off' cap' : Nat) (L : List Nd) (V : List Vn) (w : World) (ha : Hid (L ≠ [] → a = some ⟨b, off, none⟩ ∧ b < w.heap.size)) (hL : Hid (ndAt w b off L)) (hlen : L.length ≤ 1048576) (ha' : Hid (V ≠ [] → a' = some ⟨b', off', none⟩ ∧ b' < w.heap.size)) (hV : Hid (vlAt w b' off' V)) (hlen' : V.length ≤ 1048576) (hVs : Hid (∀ x ∈ V, x.2.1.size ≤ 1048576)) :
    Calls Tryz.prog 19 #[.slice a L.length cap, .slice a' V.length cap'] w fun e w' => e = .returned (.bool (fitR L V)) ∧ Below w.heap.size w w' := by
  have HG := specGood a b off cap L w ha hL hlen
  have HSH : Hid (∀ W, Below w.heap.size w W → Calls Tryz.prog 36 #[.slice a' V.length cap'] W fun e w' => e = .returned (.bool (shpOk V)) ∧ Below W.heap.size W w') := fun W hW =>
    specShapeV a' b' off' cap' V W (fun h => ⟨(ha'.out h).1, Nat.lt_of_lt_of_le (ha'.out h).2 hW.size⟩) (fun i hi => (hV.out.below hW (ha'.out (fun e => by simp [e] at hi)).2) i hi) hlen'
  obtain ⟨G, hG⟩ : ∃ G, Hid (goodT L = G) := ⟨_, rfl⟩
  obtain ⟨P, hP⟩ : ∃ P, Hid (shpOk V = P) := ⟨_, rfl⟩
  obtain ⟨R, hR⟩ : ∃ R, Hid (fitR L V = R) := ⟨_, rfl⟩
  rw [hG.out] at HG
  rw [hP.out] at HSH
  rw [hR.out]
  cases G with
  | false =>
    obtain rfl : R = false := by rw [← hR.out]; unfold fitR; rw [hG.out]; rfl
    go_enter Tryz.func19, Tryz.ntmps19
    go_wp2_with (go_at_call 29; refine HG.mono ?_; rintro e w1 ⟨rfl, hb1⟩; clear HG)
    go_ret
    exact ⟨rfl, hb1⟩
  | true =>
    have h40 := ups_good12 hG.out
    have h40' : 1 ≤ L.length ∧ L.length ≤ 40 := ⟨h40.1, h40.2.1⟩
    obtain ⟨rfl, hb⟩ := ha.out (fun h => by simp [h] at h40')
    cases P with
    | false =>
      obtain rfl : R = false := by rw [← hR.out]; unfold fitR; rw [hP.out]; simp
      clear h40 h40'
      go_enter Tryz.func19, Tryz.ntmps19
      go_wp2_with fail
      refine HG.mono ?_
      rintro e w1 ⟨rfl, hb1⟩
      clear HG
      go_wp2_with (go_at_call 36; refine (HSH.out _ hb1).mono ?_; rintro e w2 ⟨rfl, hb2⟩)
      go_ret
      exact ⟨rfl, below2 hb1 hb2⟩
    | true =>
      have hsh : shpV (vuAt V) V.length = true ∧ V.length ≤ 100 := by
        have := hP.out
        unfold shpOk at this
        simp at this
        exact this
      have hV1 : 1 ≤ V.length := by have := hsh.1; unfold shpV at this; simp at this; omega
      obtain ⟨rfl, hb'⟩ := ha'.out (fun h => by simp [h] at hV1)
      have HT1 : Hid (∀ W, Below w.heap.size w W → Calls Tryz.prog 21 #[.slice (some ⟨b, off, none⟩) L.length cap, .int .i64 0] W fun e w' => ∃ sl, e = .returned (.agg #[.int .i64 (kdAt L 0), .int .i64 (nAt L 0), sl]) ∧ S3 L W.heap.size w'.heap.size L.length w' 0 sl ∧ Below W.heap.size W w') := fun W hW => specTreeC L h40'.2 b off cap L.length 0 (by omega) (by omega) W (Nat.lt_of_lt_of_le hb hW.size) (hL.out.below hW hb)
      have HT2 : Hid (∀ W, Below w.heap.size w W → Calls Tryz.prog 22 #[.slice (some ⟨b', off', none⟩) V.length cap', .int .i64 0] W fun e w' => ∃ sl, e = .returned (.agg #[.int .i64 (vnAt V 0), .string (vtAt V 0), sl]) ∧ S3v V W.heap.size w'.heap.size V.length w' 0 sl ∧ Below W.heap.size W w') := fun W hW => specTreeV V hsh.2 b' off' cap' V.length 0 (by omega) (by omega) W (Nat.lt_of_lt_of_le hb' hW.size) (hV.out.below hW hb')
      have HF : Hid (FitS L V L.length V.length 0 0) := specFits L V hG.out hsh.2 hVs.out L.length V.length 0 0 (by omega) (by omega)
      obtain rfl : R = fitM L V L.length 0 0 := by rw [← hR.out]; unfold fitR; rw [hG.out, hP.out]; simp
      obtain ⟨x, hx⟩ : ∃ x, kdAt L 0 = x := ⟨_, rfl⟩
      obtain ⟨y, hy⟩ : ∃ x, nAt L 0 = x := ⟨_, rfl⟩
      obtain ⟨p, hp⟩ : ∃ x, vnAt V 0 = x := ⟨_, rfl⟩
      obtain ⟨s, hs⟩ : ∃ x, vtAt V 0 = x := ⟨_, rfl⟩
      obtain ⟨F, hF⟩ : ∃ F, fitM L V L.length 0 0 = F := ⟨_, rfl⟩
      have HF2 : Hid (∀ (w : World) (lo hi lo' hi' : Nat) (sl sl' : Value), S3 L lo hi L.length w 0 sl → hi ≤ w.heap.size → S3v V lo' hi' V.length w 0 sl' → hi' ≤ w.heap.size → Calls Tryz.prog 37 #[.agg #[.int .i64 x, .int .i64 y, sl], .agg #[.int .i64 p, .string s, sl']] w fun e w' => e = .returned (.bool F) ∧ Below w.heap.size w w') := by
        have := HF.out
        unfold FitS at this
        rw [hx, hy, hp, hs, hF] at this
        exact this
      rw [hx, hy] at HT1
      rw [hp, hs] at HT2
      rw [hF]
      clear HF hx hy hp hs hF hR h40 h40' hsh hV1
      go_enter Tryz.func19, Tryz.ntmps19
      go_wp2_with fail
      refine HG.mono ?_
      rintro e w1 ⟨rfl, hb1⟩
      clear HG
      go_wp2_with fail
      refine (HSH.out _ hb1).mono ?_
      rintro e w2 ⟨rfl, hb2'⟩
      have hb2 := below2 hb1 hb2'
      clear hb2' HSH
      go_wp2_with fail
      refine (HT1.out _ hb2).mono ?_
      rintro e w3 ⟨sl, rfl, tr1, hb3'⟩
      have hb3 := below2 hb2 hb3'
      clear hb3' HT1
      go_wp2_with fail
      refine (HT2.out _ hb3).mono ?_
      rintro e w4 ⟨sl', rfl, tr2, hb4'⟩
      have hb4 := below2 hb3 hb4'
      have HC := HF2.out w4 _ _ _ _ sl sl' (R3.below tr1 hb4' (Nat.le_refl _)) hb4'.size tr2 (Nat.le_refl _)
      clear hb4' HT2 HF2 tr1 tr2
      go_wp2_with fail
      refine HC.mono ?_
      rintro e w5 ⟨rfl, hb5⟩
      clear HC
      go_wp2
      go_ret
      exact ⟨rfl, below2 hb4 hb5⟩

end Go.Proofs.YtljnciclbjcinaaGreatDoor
