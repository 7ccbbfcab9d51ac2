/-
  Whether two values that fit are the same: both functions, and the law. (Made by a generator.)
-/
import Derived.Test.YtlimlpidbjkofaaDoorVF
import Derived.Laws.StructEq
namespace Go.Proofs.YtlimlpidbjkofaaDoor
open Go.ChangeShapes Go.WideShapes Go.ChangeAt Go.RowKit

def sameVn (a b : Vn) : Bool := (a.1 == b.1 && decide (a.2.1.toList = b.2.1.toList)) && a.2.2 == b.2.2
/-- Both rows are as long, and the same at each place. -/
def allV : List Vn → List Vn → Bool
  | [], [] => true
  | a :: l, b :: m => sameVn a b && allV l m
  | _, _ => false
theorem allV_len : ∀ (l : List Vn) (m : List Vn), l.length ≠ m.length → allV l m = false
  | [], [], h => absurd rfl h
  | [], _ :: _, _ => rfl
  | _ :: _, [], _ => rfl
  | a :: l, b :: m, h => by
    unfold allV
    rw [allV_len l m (fun e => h (by simp [e])), Bool.and_false]
theorem allV_no : ∀ (l : List Vn) (m : List Vn) (k : Nat) (h : k < l.length) (h' : k < m.length), sameVn l[k] m[k] = false → allV l m = false
  | a :: l, b :: m, 0, _, _, hp => by
    unfold allV
    rw [show sameVn a b = false from hp, Bool.false_and]
  | a :: l, b :: m, k + 1, h, h', hp => by
    unfold allV
    rw [allV_no l m k (by simpa using h) (by simpa using h') hp, Bool.and_false]
theorem allV_yes : ∀ (l : List Vn) (m : List Vn), l.length = m.length → (∀ k (h : k < l.length) (h' : k < m.length), sameVn l[k] m[k] = true) → allV l m = true
  | [], [], _, _ => rfl
  | [], _ :: _, h, _ => absurd h (by simp)
  | _ :: _, [], h, _ => absurd h (by simp)
  | a :: l, b :: m, h, hp => by
    unfold allV
    rw [show sameVn a b = true from hp 0 (by simp) (by simp), allV_yes l m (by simpa using h) (fun k h1 h2 => hp (k + 1) (by simpa using h1) (by simpa using h2)), Bool.and_self]
theorem neqVn (xo xa yo ya : Int) (xs ys : ByteArray) (w : World) : (binOp .neq 62 (.agg #[.int .i64 xo, .string xs, .int .i64 xa]) (.agg #[.int .i64 yo, .string ys, .int .i64 ya])).run Tryd.prog w = .ok (.bool (!sameVn (xo, xs, xa) (yo, ys, ya))) w := by
  rw [run_neq_struct, run_equalIn_agg w 9999 62 _ _ (by kernel_rfl) (by kernel_rfl)]
  simp only [Program.fieldsOf, Tryd.underlying62]
  simp [Op.eqFields, go_sem, Tryd.underlying3, Tryd.underlying9, sameVn]
  by_cases h1 : xo = yo <;> by_cases h2 : xs.toList = ys.toList <;> by_cases h3 : xa = ya <;> simp [h1, h2, h3]

set_option maxRecDepth 100000 in
set_option maxHeartbeats 1600000 in
theorem libEqV (a a' : Option Addr) (b off cap b' off' cap' : Nat) (L M : List Vn) (w : World) (ha : Hid (L ≠ [] → a = some ⟨b, off, none⟩ ∧ b < w.heap.size)) (hL : Hid (vlAt w b off L)) (hl : L.length ≤ 1048576) (ha' : Hid (M ≠ [] → a' = some ⟨b', off', none⟩ ∧ b' < w.heap.size)) (hM : Hid (vlAt w b' off' M)) (_hm : M.length ≤ 1048576) :
    Calls Tryd.prog 41 #[.slice a L.length cap, .slice a' M.length cap'] w fun e w' => e = .returned (.bool (allV L M)) ∧ Below w.heap.size w w' := by
  by_cases hn : L.length = M.length
  · have HN : Hid (L.length = M.length) := hn
    rw [← hn]
    obtain ⟨n, hnn⟩ : ∃ n, L.length = n := ⟨_, rfl⟩
    have HL : Hid (L.length = n) := hnn
    rw [hnn] at hl ⊢
    clear hnn hn _hm
    go_enter Tryd.func41, Tryd.ntmps41
    go_wp2
    go_loopw [13] (fun i wr => ∃ k : Nat, k ≤ n ∧ i = .int .i64 k ∧ Hid (∀ j (h : j < L.length) (h' : j < M.length), j < k → sameVn L[j] M[j] = true) ∧ Below w.heap.size w wr) (fun i _ => n - (intOf i).toNat)
    case atStart => exact ⟨0, by omega, rfl, fun j _ _ h => absurd h (by omega), Below.refl _ _⟩
    case round =>
      obtain ⟨k, hk, rfl, hg, hnx⟩ := hrel
      by_cases hlt : k < n
      · have hkL : k < L.length := by have := HL.out; omega
        have hkM : k < M.length := by have := HL.out; have := HN.out; omega
        obtain ⟨rfl, hb⟩ := ha.out (fun h => by simp [h] at hkL)
        obtain ⟨rfl, hb'⟩ := ha'.out (fun h => by simp [h] at hkM)
        have hc := hL.out k hkL
        have hd := hM.out k hkM
        have hno := allV_no L M k hkL hkM
        have hys : Hid (sameVn L[k] M[k] = true → ∀ j (h : j < L.length) (h' : j < M.length), j < k + 1 → sameVn L[j] M[j] = true) := fun hx j h h' hj => by
          by_cases e : j = k
          · subst e; exact hx
          · exact hg.out j h h' (by omega)
        obtain ⟨x, hx⟩ : ∃ x, x = L[k] := ⟨_, rfl⟩
        obtain ⟨y, hy⟩ : ∃ y, y = M[k] := ⟨_, rfl⟩
        rw [← hx] at hc hno hys
        rw [← hy] at hd hno hys
        clear hx hy hkL hkM
        have HNO : Hid (sameVn x y = false → allV L M = false) := hno
        clear hno
        obtain ⟨xo, xs, xa⟩ := x
        obtain ⟨yo, ys, ya⟩ := y
        simp only at hc hd
        have c0 : wr.cell? ⟨b, off + k * 3, none⟩ = some (.int .i64 xo) := (hnx.cell (by exact hb)).trans hc.1
        have d0 : wr.cell? ⟨b', off' + k * 3, none⟩ = some (.int .i64 yo) := (hnx.cell (by exact hb')).trans hd.1
        have c1 : wr.cell? ⟨b, off + k * 3 + 1, none⟩ = some (.string xs) := (hnx.cell (by exact hb)).trans hc.2.1
        have d1 : wr.cell? ⟨b', off' + k * 3 + 1, none⟩ = some (.string ys) := (hnx.cell (by exact hb')).trans hd.2.1
        have c2 : wr.cell? ⟨b, off + k * 3 + 2, none⟩ = some (.int .i64 xa) := (hnx.cell (by exact hb)).trans hc.2.2
        have d2 : wr.cell? ⟨b', off' + k * 3 + 2, none⟩ = some (.int .i64 ya) := (hnx.cell (by exact hb')).trans hd.2.2
        clear hc hd
        obtain ⟨r, hr⟩ : ∃ r, sameVn ⟨xo, xs, xa⟩ ⟨yo, ys, ya⟩ = r := ⟨_, rfl⟩
        rw [hr] at HNO hys
        cases r
        · have e1 := neqVn xo xa yo ya xs ys
          rw [hr] at e1
          clear hr
          go_wp2
          go_quiet (fail)
          go_wp2
          go_ret
          exact ⟨by rw [HNO.out (by trivial)]; rfl, bel_dN hnx _⟩
        · have e1 := neqVn xo xa yo ya xs ys
          rw [hr] at e1
          clear hr
          go_wp2
          go_quiet (fail)
          go_wp2
          go_roundw
          case rel => exact ⟨k + 1, by omega, by go_num, hys.out (by trivial), bel_dN hnx _⟩
          case measure => simp [intOf]; omega
      · have hall : Hid (allV L M = true) := allV_yes L M HN.out (fun j h h' => hg.out j h h' (by have := HL.out; omega))
        clear hg
        go_wp2
        go_ret
        exact ⟨by rw [hall.out]; rfl, hnx⟩
  · have hr : Hid (allV L M = false) := allV_len L M hn
    have hn' : ((L.length : Int) == (M.length : Int)) = false := by simp; omega
    clear hn
    go_enter Tryd.func41, Tryd.ntmps41
    go_wp2
    go_ret
    exact ⟨by rw [hr.out]; rfl, Below.refl _ _⟩

/-- What is told. -/
def okS (L : List Nd) (V W : List Vn) : Bool := fitR L V && fitR L W
def sameS (L : List Nd) (V W : List Vn) : Bool := okS L V W && allV V W

set_option maxRecDepth 100000 in
set_option maxHeartbeats 1600000 in
theorem implSameValue (a a1 a2 : Option Addr) (b off cap b1 off1 cap1 b2 off2 cap2 : Nat) (L : List Nd) (V V2 : List Vn) (w : World) (ha : Hid (L ≠ [] → a = some ⟨b, off, none⟩ ∧ b < w.heap.size)) (hL : Hid (ndAt w b off L)) (hlen : L.length ≤ 1048576) (ha1 : Hid (V ≠ [] → a1 = some ⟨b1, off1, none⟩ ∧ b1 < w.heap.size)) (hV : Hid (vlAt w b1 off1 V)) (hlen1 : V.length ≤ 1048576) (hVs : Hid (∀ x ∈ V, x.2.1.size ≤ 1048576)) (ha2 : Hid (V2 ≠ [] → a2 = some ⟨b2, off2, none⟩ ∧ b2 < w.heap.size)) (hV2 : Hid (vlAt w b2 off2 V2)) (hlen2 : V2.length ≤ 1048576) (hVs2 : Hid (∀ x ∈ V2, x.2.1.size ≤ 1048576)) (hT : Hid (Tabs w)) (hB : Hid (BTabs w)) (hU : Hid (UTabs w)) :
    Calls Tryd.prog 23 #[.slice a L.length cap, .slice a1 V.length cap1, .slice a2 V2.length cap2] w fun e w' => e = .returned (.tuple #[.bool (sameS L V V2), .bool (okS L V V2)]) ∧ Below w.heap.size w w' := by
  have KA : Hid (∀ W, Below w.heap.size w W → (L ≠ [] → a = some ⟨b, off, none⟩ ∧ b < W.heap.size) ∧ ndAt W b off L ∧ (V ≠ [] → a1 = some ⟨b1, off1, none⟩ ∧ b1 < W.heap.size) ∧ vlAt W b1 off1 V ∧ (V2 ≠ [] → a2 = some ⟨b2, off2, none⟩ ∧ b2 < W.heap.size) ∧ vlAt W b2 off2 V2) := fun W hW => ⟨fun h => ⟨(ha.out h).1, Nat.lt_of_lt_of_le (ha.out h).2 hW.size⟩, nds_keep hL.out ha.out hW, fun h => ⟨(ha1.out h).1, Nat.lt_of_lt_of_le (ha1.out h).2 hW.size⟩, vals_keep hV.out ha1.out hW, fun h => ⟨(ha2.out h).1, Nat.lt_of_lt_of_le (ha2.out h).2 hW.size⟩, vals_keep hV2.out ha2.out hW⟩
  have H := implFitsType a a1 b off cap b1 off1 cap1 L V w ha hL hlen ha1 hV hlen1 hVs hT hB hU
  obtain ⟨F, hF⟩ : ∃ F, fitR L V = F := ⟨_, rfl⟩
  have hO : okS L V V2 = (F && fitR L V2) := by unfold okS; rw [hF]
  rw [hF] at H
  clear hF ha hL ha1 hV ha2 hV2
  cases F with
  | false =>
    have HO : Hid (okS L V V2 = false ∧ sameS L V V2 = false) := by unfold Hid sameS; rw [hO]; simp
    clear hO
    rw [HO.out.1, HO.out.2]
    go_enter Tryd.func23, Tryd.ntmps23
    go_wp2_with (go_at_call 12; refine H.mono ?_; rintro e w1 ⟨rfl, hb1⟩; clear H)
    go_ret2
    exact ⟨rfl, hb1⟩
  | true =>
    rw [Bool.true_and] at hO
    obtain ⟨G, hG⟩ : ∃ G, fitR L V2 = G := ⟨_, rfl⟩
    rw [hG] at hO
    have HG : Hid (fitR L V2 = G) := hG
    have HO : Hid (okS L V V2 = G) := hO
    clear hO hG
    go_enter Tryd.func23, Tryd.ntmps23
    go_wp2_with fail
    refine H.mono ?_
    rintro e w1 ⟨rfl, hb1⟩
    clear H
    obtain ⟨y0, y1, y2, y3, y4, y5⟩ := KA.out w1 hb1
    have H2 := implFitsType a a2 b off cap b2 off2 cap2 L V2 w1 y0 y1 hlen y4 y5 hlen2 hVs2 (hT.out.below hb1 (Nat.le_refl _)) (hB.out.below hb1 (Nat.le_refl _)) (Utf8Tabs_below hU.out hb1)
    clear y0 y1 y2 y3 y4 y5
    rw [HG.out] at H2
    cases G with
    | false =>
      have HR : Hid (sameS L V V2 = false) := by unfold Hid sameS; rw [HO.out]; rfl
      go_wp2_with fail
      refine H2.mono ?_
      rintro e w2 ⟨rfl, hb2⟩
      clear H2
      go_wp2
      go_ret2
      exact ⟨by rw [HO.out, HR.out]; rfl, below2 hb1 hb2⟩
    | true =>
      have HR : Hid (sameS L V V2 = allV V V2) := by unfold Hid sameS; rw [HO.out, Bool.true_and]
      go_wp2_with fail
      refine H2.mono ?_
      rintro e w2 ⟨rfl, hb2⟩
      clear H2
      have hb := below2 hb1 hb2
      clear hb1 hb2
      obtain ⟨y0, y1, y2, y3, y4, y5⟩ := KA.out w2 hb
      have H3 := libEqV a1 a2 b1 off1 cap1 b2 off2 cap2 V V2 w2 y2 y3 hlen1 y4 y5 hlen2
      clear y0 y1 y2 y3 y4 y5
      obtain ⟨R, hR⟩ : ∃ R, allV V V2 = R := ⟨_, rfl⟩
      rw [hR] at H3 HR
      clear hR
      go_wp2_with fail
      refine H3.mono ?_
      rintro e w3 ⟨rfl, hb3⟩
      clear H3
      go_wp2
      go_ret2
      exact ⟨by rw [HO.out, HR.out]; rfl, below2 hb hb3⟩

set_option maxRecDepth 100000 in
set_option maxHeartbeats 1600000 in
theorem specSameValue (a a1 a2 : Option Addr) (b off cap b1 off1 cap1 b2 off2 cap2 : Nat) (L : List Nd) (V V2 : List Vn) (w : World) (ha : Hid (L ≠ [] → a = some ⟨b, off, none⟩ ∧ b < w.heap.size)) (hL : Hid (ndAt w b off L)) (hlen : L.length ≤ 1048576) (ha1 : Hid (V ≠ [] → a1 = some ⟨b1, off1, none⟩ ∧ b1 < w.heap.size)) (hV : Hid (vlAt w b1 off1 V)) (hlen1 : V.length ≤ 1048576) (hVs : Hid (∀ x ∈ V, x.2.1.size ≤ 1048576)) (ha2 : Hid (V2 ≠ [] → a2 = some ⟨b2, off2, none⟩ ∧ b2 < w.heap.size)) (hV2 : Hid (vlAt w b2 off2 V2)) (hlen2 : V2.length ≤ 1048576) (hVs2 : Hid (∀ x ∈ V2, x.2.1.size ≤ 1048576)) :
    Calls Tryd.prog 22 #[.slice a L.length cap, .slice a1 V.length cap1, .slice a2 V2.length cap2] w fun e w' => e = .returned (.tuple #[.bool (sameS L V V2), .bool (okS L V V2)]) ∧ Below w.heap.size w w' := by
  have KA : Hid (∀ W, Below w.heap.size w W → (L ≠ [] → a = some ⟨b, off, none⟩ ∧ b < W.heap.size) ∧ ndAt W b off L ∧ (V ≠ [] → a1 = some ⟨b1, off1, none⟩ ∧ b1 < W.heap.size) ∧ vlAt W b1 off1 V ∧ (V2 ≠ [] → a2 = some ⟨b2, off2, none⟩ ∧ b2 < W.heap.size) ∧ vlAt W b2 off2 V2) := fun W hW => ⟨fun h => ⟨(ha.out h).1, Nat.lt_of_lt_of_le (ha.out h).2 hW.size⟩, nds_keep hL.out ha.out hW, fun h => ⟨(ha1.out h).1, Nat.lt_of_lt_of_le (ha1.out h).2 hW.size⟩, vals_keep hV.out ha1.out hW, fun h => ⟨(ha2.out h).1, Nat.lt_of_lt_of_le (ha2.out h).2 hW.size⟩, vals_keep hV2.out ha2.out hW⟩
  have H := specFitsType a a1 b off cap b1 off1 cap1 L V w ha hL hlen ha1 hV hlen1 hVs
  obtain ⟨F, hF⟩ : ∃ F, fitR L V = F := ⟨_, rfl⟩
  have hO : okS L V V2 = (F && fitR L V2) := by unfold okS; rw [hF]
  rw [hF] at H
  clear hF ha hL ha1 hV ha2 hV2
  cases F with
  | false =>
    have HO : Hid (okS L V V2 = false ∧ sameS L V V2 = false) := by unfold Hid sameS; rw [hO]; simp
    clear hO
    rw [HO.out.1, HO.out.2]
    go_enter Tryd.func22, Tryd.ntmps22
    go_wp2_with (go_at_call 9; refine H.mono ?_; rintro e w1 ⟨rfl, hb1⟩; clear H)
    go_ret2
    exact ⟨rfl, hb1⟩
  | true =>
    rw [Bool.true_and] at hO
    obtain ⟨G, hG⟩ : ∃ G, fitR L V2 = G := ⟨_, rfl⟩
    rw [hG] at hO
    have HG : Hid (fitR L V2 = G) := hG
    have HO : Hid (okS L V V2 = G) := hO
    clear hO hG
    go_enter Tryd.func22, Tryd.ntmps22
    go_wp2_with fail
    refine H.mono ?_
    rintro e w1 ⟨rfl, hb1⟩
    clear H
    obtain ⟨y0, y1, y2, y3, y4, y5⟩ := KA.out w1 hb1
    have H2 := specFitsType a a2 b off cap b2 off2 cap2 L V2 w1 y0 y1 hlen y4 y5 hlen2 hVs2
    clear y0 y1 y2 y3 y4 y5
    rw [HG.out] at H2
    cases G with
    | false =>
      have HR : Hid (sameS L V V2 = false) := by unfold Hid sameS; rw [HO.out]; rfl
      go_wp2_with fail
      refine H2.mono ?_
      rintro e w2 ⟨rfl, hb2⟩
      clear H2
      go_wp2
      go_ret2
      exact ⟨by rw [HO.out, HR.out]; rfl, below2 hb1 hb2⟩
    | true =>
      have HR : Hid (sameS L V V2 = allV V V2) := by unfold Hid sameS; rw [HO.out, Bool.true_and]
      go_wp2_with fail
      refine H2.mono ?_
      rintro e w2 ⟨rfl, hb2⟩
      clear H2
      have hb := below2 hb1 hb2
      clear hb1 hb2
      obtain ⟨y0, y1, y2, y3, y4, y5⟩ := KA.out w (Below.refl _ _)
      have QA : Hid (V ≠ [] → a1 = some ⟨b1, off1, none⟩ ∧ b1 < w.heap.size) := y2
      have QL : Hid (vlAt w b1 off1 V) := y3
      have QB : Hid (V2 ≠ [] → a2 = some ⟨b2, off2, none⟩ ∧ b2 < w.heap.size) := y4
      have QM : Hid (vlAt w b2 off2 V2) := y5
      clear y0 y1 y2 y3 y4 y5
      by_cases hn : V.length = V2.length
      · have HN : Hid (V.length = V2.length) := hn
        rw [← hn]
        obtain ⟨n, hnn⟩ : ∃ n, V.length = n := ⟨_, rfl⟩
        have HL : Hid (V.length = n) := hnn
        rw [hnn] at hlen1 ⊢
        clear hnn hn
        go_wp2
        go_loopw [26] (fun i wr => ∃ k : Nat, k ≤ n ∧ i = .int .i64 k ∧ Hid (∀ j (h : j < V.length) (h' : j < V2.length), j < k → sameVn V[j] V2[j] = true) ∧ Below w.heap.size w wr) (fun i _ => n - (intOf i).toNat)
        case atStart => exact ⟨0, by omega, rfl, fun j _ _ h => absurd h (by omega), hb⟩
        case round =>
          obtain ⟨k, hk, rfl, hg, hnx⟩ := hrel
          by_cases hlt : k < n
          · have hkL : k < V.length := by have := HL.out; omega
            have hkM : k < V2.length := by have := HL.out; have := HN.out; omega
            obtain ⟨rfl, hb⟩ := QA.out (fun h => by simp [h] at hkL)
            obtain ⟨rfl, hb'⟩ := QB.out (fun h => by simp [h] at hkM)
            have hc := QL.out k hkL
            have hd := QM.out k hkM
            have hno := allV_no V V2 k hkL hkM
            have hys : Hid (sameVn V[k] V2[k] = true → ∀ j (h : j < V.length) (h' : j < V2.length), j < k + 1 → sameVn V[j] V2[j] = true) := fun hx j h h' hj => by
              by_cases e : j = k
              · subst e; exact hx
              · exact hg.out j h h' (by omega)
            obtain ⟨x, hx⟩ : ∃ x, x = V[k] := ⟨_, rfl⟩
            obtain ⟨y, hy⟩ : ∃ y, y = V2[k] := ⟨_, rfl⟩
            rw [← hx] at hc hno hys
            rw [← hy] at hd hno hys
            clear hx hy hkL hkM
            have HNO : Hid (sameVn x y = false → allV V V2 = false) := hno
            clear hno
            obtain ⟨xo, xs, xa⟩ := x
            obtain ⟨yo, ys, ya⟩ := y
            simp only at hc hd
            have c0 : wr.cell? ⟨b1, off1 + k * 3, none⟩ = some (.int .i64 xo) := (hnx.cell (by exact hb)).trans hc.1
            have d0 : wr.cell? ⟨b2, off2 + k * 3, none⟩ = some (.int .i64 yo) := (hnx.cell (by exact hb')).trans hd.1
            have c1 : wr.cell? ⟨b1, off1 + k * 3 + 1, none⟩ = some (.string xs) := (hnx.cell (by exact hb)).trans hc.2.1
            have d1 : wr.cell? ⟨b2, off2 + k * 3 + 1, none⟩ = some (.string ys) := (hnx.cell (by exact hb')).trans hd.2.1
            have c2 : wr.cell? ⟨b1, off1 + k * 3 + 2, none⟩ = some (.int .i64 xa) := (hnx.cell (by exact hb)).trans hc.2.2
            have d2 : wr.cell? ⟨b2, off2 + k * 3 + 2, none⟩ = some (.int .i64 ya) := (hnx.cell (by exact hb')).trans hd.2.2
            clear hc hd
            obtain ⟨r, hr⟩ : ∃ r, sameVn ⟨xo, xs, xa⟩ ⟨yo, ys, ya⟩ = r := ⟨_, rfl⟩
            rw [hr] at HNO hys
            cases r
            · have e1 := neqVn xo xa yo ya xs ys
              rw [hr] at e1
              clear hr
              go_wp2
              go_quiet (fail)
              go_wp2
              go_ret2
              exact ⟨by rw [HO.out, HR.out, HNO.out (by trivial)]; rfl, bel_dN hnx _⟩
            · have e1 := neqVn xo xa yo ya xs ys
              rw [hr] at e1
              clear hr
              go_wp2
              go_quiet (fail)
              go_wp2
              go_roundw
              case rel => exact ⟨k + 1, by omega, by go_num, hys.out (by trivial), bel_dN hnx _⟩
              case measure => simp [intOf]; omega
          · have hall : Hid (allV V V2 = true) := allV_yes V V2 HN.out (fun j h h' => hg.out j h h' (by have := HL.out; omega))
            clear hg
            go_wp2
            go_ret2
            exact ⟨by rw [HO.out, HR.out, hall.out]; rfl, hnx⟩
      · have hr : Hid (allV V V2 = false) := allV_len V V2 hn
        have hn' : ((V.length : Int) == (V2.length : Int)) = false := by simp; omega
        clear hn
        go_wp2
        go_ret2
        exact ⟨by rw [HO.out, HR.out, hr.out]; rfl, hb⟩

set_option maxRecDepth 100000 in
set_option maxHeartbeats 1600000 in
theorem sameValue_walk (a0 : Option Addr) (a1 : Option Addr) (a2 : Option Addr) (cap0 : Nat) (cap1 : Nat) (cap2 : Nat) (L0 : List Nd) (V1 : List Vn) (V2 : List Vn) (w : World) (h0 : IsNds w a0 L0) (h1 : IsVals w a1 V1) (h2 : IsVals w a2 V2) (hTT : Tabs w ∧ BTabs w ∧ UTabs w) :
    Calls Tryd.prog 6 #[.slice a0 L0.length cap0, .slice a1 V1.length cap1, .slice a2 V2.length cap2] w fun e w' => e = .returned (.bool true) ∧ Below w.heap.size w w' := by
  obtain ⟨b0, off0, ha0, hL0, hlen0, hfit0⟩ := h0
  obtain ⟨b1, off1, ha1, hL1, hlen1, hfit1⟩ := h1
  obtain ⟨b2, off2, ha2, hL2, hlen2, hfit2⟩ := h2
  have HSZ := szNdsR a0 cap0 L0.length w hlen0
  have HT : Hid (Tabs w) := hTT.1
  have HB : Hid (BTabs w) := hTT.2.1
  have HU : Hid (UTabs w) := hTT.2.2
  have HA0 : Hid (L0 ≠ [] → a0 = some ⟨b0, off0, none⟩ ∧ b0 < w.heap.size) := ha0
  have HL0 : Hid (ndAt w b0 off0 L0) := hL0
  have HA1 : Hid (V1 ≠ [] → a1 = some ⟨b1, off1, none⟩ ∧ b1 < w.heap.size) := ha1
  have HL1 : Hid (vlAt w b1 off1 V1) := hL1
  have HFS1 : Hid (∀ x ∈ V1, x.2.1.size ≤ 9223372036854775807) := fun x hx => (hfit1 x hx).2.1
  have HA2 : Hid (V2 ≠ [] → a2 = some ⟨b2, off2, none⟩ ∧ b2 < w.heap.size) := ha2
  have HL2 : Hid (vlAt w b2 off2 V2) := hL2
  have HFS2 : Hid (∀ x ∈ V2, x.2.1.size ≤ 9223372036854775807) := fun x hx => (hfit2 x hx).2.1
  have KA : Hid (∀ W, Below w.heap.size w W → (L0 ≠ [] → a0 = some ⟨b0, off0, none⟩ ∧ b0 < W.heap.size) ∧ ndAt W b0 off0 L0 ∧ (V1 ≠ [] → a1 = some ⟨b1, off1, none⟩ ∧ b1 < W.heap.size) ∧ vlAt W b1 off1 V1 ∧ (V2 ≠ [] → a2 = some ⟨b2, off2, none⟩ ∧ b2 < W.heap.size) ∧ vlAt W b2 off2 V2) := fun W hW => ⟨fun h => ⟨(ha0 h).1, Nat.lt_of_lt_of_le (ha0 h).2 hW.size⟩, nds_keep hL0 ha0 hW, fun h => ⟨(ha1 h).1, Nat.lt_of_lt_of_le (ha1 h).2 hW.size⟩, vals_keep hL1 ha1 hW, fun h => ⟨(ha2 h).1, Nat.lt_of_lt_of_le (ha2 h).2 hW.size⟩, vals_keep hL2 ha2 hW⟩
  clear hTT ha0 hL0 hfit0 ha1 hL1 hfit1 ha2 hL2 hfit2
  go_enter Tryd.func6, Tryd.ntmps6
  go_wp2_with fail
  refine HSZ.mono ?_
  rintro e w0 ⟨r0, rfl, hr90, hr0, rfl⟩
  clear HSZ
  by_cases hneg0 : r0 < 0
  · go_wp2
    go_ret
    exact ⟨rfl, Below.refl _ _⟩
  · have hlb0 : L0.length ≤ 1048576 := hr0 (by omega)
    have hnn0 : 0 ≤ r0 ∧ r0 ≤ 1048576 := ⟨by omega, hr90.2⟩
    have hbb0 : Below w0.heap.size w0 w0 := Below.refl _ _
    clear hr0 hr90
    obtain ⟨y0a, y0b, y1a, y1b, y2a, y2b⟩ := KA.out w0 hbb0
    have HS := szVals a1 b1 off1 cap1 V1 r0 w0 y1a y1b hlen1 HFS1 hnn0
    clear y0a y0b y1a y1b y2a y2b
    clear HFS1 hnn0
    go_wp2_with fail
    refine HS.mono ?_
    rintro e w1 ⟨r1, rfl, hr91, hr1, hbq⟩
    have hbb1 := below2 hbb0 hbq
    clear HS hbq hbb0 hneg0
    by_cases hneg1 : r1 < 0
    · go_wp2
      go_ret
      exact ⟨rfl, hbb1⟩
    · obtain ⟨hlb1, hVs1⟩ := hr1 (by omega)
      have HVs1 : Hid (∀ x ∈ V1, x.2.1.size ≤ 1048576) := hVs1
      have hnn1 : 0 ≤ r1 ∧ r1 ≤ 1048576 := ⟨by omega, hr91.2⟩
      clear hVs1 hr1 hr91
      obtain ⟨y0a, y0b, y1a, y1b, y2a, y2b⟩ := KA.out w1 hbb1
      have HS := szVals a2 b2 off2 cap2 V2 r1 w1 y2a y2b hlen2 HFS2 hnn1
      clear y0a y0b y1a y1b y2a y2b
      clear HFS2 hnn1
      go_wp2_with fail
      refine HS.mono ?_
      rintro e w2 ⟨r2, rfl, hr92, hr2, hbq⟩
      have hbb2 := below2 hbb1 hbq
      clear HS hbq hbb1 hneg1
      by_cases hneg2 : r2 < 0
      · go_wp2
        go_ret
        exact ⟨rfl, hbb2⟩
      · obtain ⟨hlb2, hVs2⟩ := hr2 (by omega)
        have HVs2 : Hid (∀ x ∈ V2, x.2.1.size ≤ 1048576) := hVs2
        have hnn2 : 0 ≤ r2 ∧ r2 ≤ 1048576 := ⟨by omega, hr92.2⟩
        clear hVs2 hr2 hr92
        clear hnn2
        obtain ⟨y0a, y0b, y1a, y1b, y2a, y2b⟩ := KA.out w2 hbb2
        have HC := toNds a0 b0 off0 cap0 L0 w2 y0a y0b hlb0
        clear y0a y0b y1a y1b y2a y2b
        go_wp2_with fail
        refine HC.mono ?_
        rintro e w3 ⟨rfl, hlp0, hnp0, _, hbq⟩
        have hbb3 := below2 hbb2 hbq
        clear HC hbq hbb2
        obtain ⟨y0a, y0b, y1a, y1b, y2a, y2b⟩ := KA.out w3 hbb3
        have HC := toVals a1 b1 off1 cap1 V1 w3 y1a y1b hlb1
        clear y0a y0b y1a y1b y2a y2b
        go_wp2_with fail
        refine HC.mono ?_
        rintro e w4 ⟨rfl, hlp1, hnp1, _, hbq⟩
        have hbb4 := below2 hbb3 hbq
        replace hnp0 := hnp0.below hbq hlp0
        replace hlp0 := Nat.lt_of_lt_of_le hlp0 hbq.size
        clear HC hbq hbb3
        obtain ⟨y0a, y0b, y1a, y1b, y2a, y2b⟩ := KA.out w4 hbb4
        have HC := toVals a2 b2 off2 cap2 V2 w4 y2a y2b hlb2
        clear y0a y0b y1a y1b y2a y2b
        go_wp2_with fail
        refine HC.mono ?_
        rintro e w5 ⟨rfl, hlp2, hnp2, _, hbq⟩
        have hbb5 := below2 hbb4 hbq
        replace hnp0 := hnp0.below hbq hlp0
        replace hlp0 := Nat.lt_of_lt_of_le hlp0 hbq.size
        replace hnp1 := hnp1.below hbq hlp1
        replace hlp1 := Nat.lt_of_lt_of_le hlp1 hbq.size
        clear HC hbq hbb4
        clear hneg2
        have HC := specSameValue (some ⟨w2.heap.size, 0, none⟩) (some ⟨w3.heap.size, 0, none⟩) (some ⟨w4.heap.size, 0, none⟩) w2.heap.size 0 L0.length w3.heap.size 0 V1.length w4.heap.size 0 V2.length L0 V1 V2 w5 (fun _ => ⟨rfl, hlp0⟩) hnp0 hlb0 (fun _ => ⟨rfl, hlp1⟩) hnp1 hlb1 HVs1 (fun _ => ⟨rfl, hlp2⟩) hnp2 hlb2 HVs2
        clear hlp0 hnp0 hlp1 hnp1 hlp2 hnp2
        go_wp2_with fail
        refine HC.mono ?_
        rintro e w6 ⟨rfl, hbq⟩
        have hbb6 := below2 hbb5 hbq
        clear HC hbq hbb5
        obtain ⟨y0a, y0b, y1a, y1b, y2a, y2b⟩ := KA.out w6 hbb6
        have HC := toNds a0 b0 off0 cap0 L0 w6 y0a y0b hlb0
        clear y0a y0b y1a y1b y2a y2b
        go_wp2_with fail
        refine HC.mono ?_
        rintro e w7 ⟨rfl, hlq0, hnq0, _, hbq⟩
        have hbb7 := below2 hbb6 hbq
        clear HC hbq hbb6
        obtain ⟨y0a, y0b, y1a, y1b, y2a, y2b⟩ := KA.out w7 hbb7
        have HC := toVals a1 b1 off1 cap1 V1 w7 y1a y1b hlb1
        clear y0a y0b y1a y1b y2a y2b
        go_wp2_with fail
        refine HC.mono ?_
        rintro e w8 ⟨rfl, hlq1, hnq1, _, hbq⟩
        have hbb8 := below2 hbb7 hbq
        replace hnq0 := hnq0.below hbq hlq0
        replace hlq0 := Nat.lt_of_lt_of_le hlq0 hbq.size
        clear HC hbq hbb7
        obtain ⟨y0a, y0b, y1a, y1b, y2a, y2b⟩ := KA.out w8 hbb8
        have HC := toVals a2 b2 off2 cap2 V2 w8 y2a y2b hlb2
        clear y0a y0b y1a y1b y2a y2b
        go_wp2_with fail
        refine HC.mono ?_
        rintro e w9 ⟨rfl, hlq2, hnq2, _, hbq⟩
        have hbb9 := below2 hbb8 hbq
        replace hnq0 := hnq0.below hbq hlq0
        replace hlq0 := Nat.lt_of_lt_of_le hlq0 hbq.size
        replace hnq1 := hnq1.below hbq hlq1
        replace hlq1 := Nat.lt_of_lt_of_le hlq1 hbq.size
        clear HC hbq hbb8
        have HC := implSameValue (some ⟨w6.heap.size, 0, none⟩) (some ⟨w7.heap.size, 0, none⟩) (some ⟨w8.heap.size, 0, none⟩) w6.heap.size 0 L0.length w7.heap.size 0 V1.length w8.heap.size 0 V2.length L0 V1 V2 w9 (fun _ => ⟨rfl, hlq0⟩) hnq0 hlb0 (fun _ => ⟨rfl, hlq1⟩) hnq1 hlb1 HVs1 (fun _ => ⟨rfl, hlq2⟩) hnq2 hlb2 HVs2 (HT.out.below hbb9 (Nat.le_refl _)) (HB.out.below hbb9 (Nat.le_refl _)) (Utf8Tabs_below HU.out hbb9)
        obtain ⟨X, hX⟩ : ∃ y, sameS L0 V1 V2 = y := ⟨_, rfl⟩
        obtain ⟨F, hF⟩ : ∃ y, okS L0 V1 V2 = y := ⟨_, rfl⟩
        rw [hX, hF] at HC ⊢
        clear hX hF
        go_wp2_with fail
        refine HC.mono ?_
        rintro e w10 ⟨rfl, hbq⟩
        have hbb10 := below2 hbb9 hbq
        replace hnq0 := hnq0.below hbq hlq0
        replace hlq0 := Nat.lt_of_lt_of_le hlq0 hbq.size
        replace hnq1 := hnq1.below hbq hlq1
        replace hlq1 := Nat.lt_of_lt_of_le hlq1 hbq.size
        replace hnq2 := hnq2.below hbq hlq2
        replace hlq2 := Nat.lt_of_lt_of_le hlq2 hbq.size
        clear HC hbq hbb9 HT HB HU
        obtain ⟨y0a, y0b, y1a, y1b, y2a, y2b⟩ := KA.out w10 hbb10
        have HC := toNds a0 b0 off0 cap0 L0 w10 y0a y0b hlb0
        clear y0a y0b y1a y1b y2a y2b
        go_wp2_with fail
        refine HC.mono ?_
        rintro e w11 ⟨rfl, hlr, hnr, _, hbq⟩
        have hbb11 := below2 hbb10 hbq
        replace hnq0 := hnq0.below hbq hlq0
        replace hlq0 := Nat.lt_of_lt_of_le hlq0 hbq.size
        replace hnq1 := hnq1.below hbq hlq1
        replace hlq1 := Nat.lt_of_lt_of_le hlq1 hbq.size
        replace hnq2 := hnq2.below hbq hlq2
        replace hlq2 := Nat.lt_of_lt_of_le hlq2 hbq.size
        clear HC hbq hbb10
        have HC := eqNds (some ⟨w6.heap.size, 0, none⟩) (some ⟨w10.heap.size, 0, none⟩) w6.heap.size 0 L0.length w10.heap.size 0 L0.length L0 w11 (fun _ => ⟨rfl, hlq0⟩) (fun _ => ⟨rfl, hlr⟩) hnq0 hnr hlen0
        clear hnr hlr hnq0 hlq0
        go_wp2_with fail
        refine HC.mono ?_
        rintro e w12 ⟨rfl, hbq⟩
        have hbb12 := below2 hbb11 hbq
        replace hnq1 := hnq1.below hbq hlq1
        replace hlq1 := Nat.lt_of_lt_of_le hlq1 hbq.size
        replace hnq2 := hnq2.below hbq hlq2
        replace hlq2 := Nat.lt_of_lt_of_le hlq2 hbq.size
        clear HC hbq hbb11
        obtain ⟨y0a, y0b, y1a, y1b, y2a, y2b⟩ := KA.out w12 hbb12
        have HC := toVals a1 b1 off1 cap1 V1 w12 y1a y1b hlb1
        clear y0a y0b y1a y1b y2a y2b
        go_wp2_with fail
        refine HC.mono ?_
        rintro e w13 ⟨rfl, hlr, hnr, _, hbq⟩
        have hbb13 := below2 hbb12 hbq
        replace hnq1 := hnq1.below hbq hlq1
        replace hlq1 := Nat.lt_of_lt_of_le hlq1 hbq.size
        replace hnq2 := hnq2.below hbq hlq2
        replace hlq2 := Nat.lt_of_lt_of_le hlq2 hbq.size
        clear HC hbq hbb12
        have HC := eqVals (some ⟨w7.heap.size, 0, none⟩) (some ⟨w12.heap.size, 0, none⟩) w7.heap.size 0 V1.length w12.heap.size 0 V1.length V1 w13 (fun _ => ⟨rfl, hlq1⟩) (fun _ => ⟨rfl, hlr⟩) hnq1 hnr hlen1
        clear hnr hlr hnq1 hlq1
        go_wp2_with fail
        refine HC.mono ?_
        rintro e w14 ⟨rfl, hbq⟩
        have hbb14 := below2 hbb13 hbq
        replace hnq2 := hnq2.below hbq hlq2
        replace hlq2 := Nat.lt_of_lt_of_le hlq2 hbq.size
        clear HC hbq hbb13
        obtain ⟨y0a, y0b, y1a, y1b, y2a, y2b⟩ := KA.out w14 hbb14
        have HC := toVals a2 b2 off2 cap2 V2 w14 y2a y2b hlb2
        clear y0a y0b y1a y1b y2a y2b
        go_wp2_with fail
        refine HC.mono ?_
        rintro e w15 ⟨rfl, hlr, hnr, _, hbq⟩
        have hbb15 := below2 hbb14 hbq
        replace hnq2 := hnq2.below hbq hlq2
        replace hlq2 := Nat.lt_of_lt_of_le hlq2 hbq.size
        clear HC hbq hbb14
        have HC := eqVals (some ⟨w8.heap.size, 0, none⟩) (some ⟨w14.heap.size, 0, none⟩) w8.heap.size 0 V2.length w14.heap.size 0 V2.length V2 w15 (fun _ => ⟨rfl, hlq2⟩) (fun _ => ⟨rfl, hlr⟩) hnq2 hnr hlen2
        clear hnr hlr hnq2 hlq2
        go_wp2_with fail
        refine HC.mono ?_
        rintro e w16 ⟨rfl, hbq⟩
        have hbb16 := below2 hbb15 hbq
        clear HC hbq hbb15
        go_wp2
        go_ret
        exact ⟨rfl, hbb16⟩

end Go.Proofs.YtlimlpidbjkofaaDoor
