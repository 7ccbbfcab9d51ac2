/-
  Types read from texts: a word is read.
-/
import Derived.Test.YtfepbjkfabmiiaaDoorRD4
import Derived.Test.YtfepbjkfabmiiaaDoorYPo
import Derived.Deep.CutRange
import Derived.Deep.DeepCutAuto
namespace Go.Proofs.YtfepbjkfabmiiaaDoor
open Go.ChangeShapes Go.WideShapes Go.ChangeAt Go.RowKit Go.PlainAid Go.Shelf

theorem ndv_cons (x : Nd) (r : List Nd) : ndv (x :: r) = .int .i64 x.1 :: .int .i64 x.2.1 :: .int .i64 x.2.2 :: ndv r := rfl
theorem ndv_setN : ∀ (L : List Nd) (k : Nat) (_ : k < L.length) (n : Int), (ndv L).set (k * 3 + 1) (.int .i64 n) = ndv (L.modify k (fun x => (x.1, n, x.2.2)))
  | p :: r, 0, _, n => by simp [ndv]
  | p :: r, k + 1, h, n => by
    have ih := ndv_setN r k (by simpa using h) n
    rw [ndv_cons, show (k + 1) * 3 + 1 = k * 3 + 1 + 1 + 1 + 1 by omega, List.set_cons_succ, List.set_cons_succ, List.set_cons_succ, ih, List.modify_succ_cons, ndv_cons]
theorem ndv_one (L : List Nd) : ∀ u ∈ ndv L, u.oneCell' = true := by
  intro u hu
  obtain ⟨h, _, hx⟩ := List.mem_flatMap.1 hu
  simp at hx
  rcases hx with rfl | rfl | rfl <;> rfl
/-- A row of nodes of one's own. -/
abbrev NdO (B : Nat) (w : World) (v : Value) (L : List Nd) : Prop := w.ownsRow B 51 3 v L.length (ndv L)
theorem wpl_appNd (W : World) {ops : Array Oper} {rest : List Oper} {o : Oper} {a : Act} {Q : Exit → Act → World → Prop} (hgd : o.guard = none) (s x : Operand)
    (ho : o.op = .call { callee := .builtin .append, args := #[s, x], argTypes := #[22, 22] })
    (B : Nat) (v : Value) (L : List Nd) (hs : a.eval s = v) (h : NdO B W v L) (gs lo c : Nat) (X : List Nd) (hx : a.eval x = .slice (some ⟨gs, lo, none⟩) X.length c) (hc : ∀ (j : Nat) (u : Value), (ndv X)[j]? = some u → W.cell? ⟨gs, lo + j, none⟩ = some u) (hl : L.length + X.length ≤ 2000000) (hb : B ≤ W.heap.size)
    (hk : ∀ v' w', NdO B w' v' (L ++ X) → W.grownBy w' v.ownBlock → wpList Tryd.prog ops Q rest (a.put o.dst v') w') : wpList Tryd.prog ops Q (o :: rest) a W := by
  obtain ⟨i0, i0i, i00, i01, i02⟩ := info_parts Tryd.infoNd
  refine wpList_append_own W hgd s x 22 ho B 51 i0 (.agg #[.int .i64 0, .int .i64 0, .int .i64 0]) 3 24 Tryd.underlying22 i0i i00 i01 i02 rfl (by decide) v L.length (ndv L) hs h ⟨gs, lo, none⟩ X.length c (ndv X) hx (ndv_len X) (fun j u hu => by rw [Addr.add_lit]; exact hc j u hu) (ndv_one X) (by unfold maxLen; omega) (by omega) hb fun v' w' h2 h3 _ => hk v' w' ?_ h3
  rw [ndv_app] at h2
  unfold NdO
  rw [List.length_append]
  exact h2

/-- The library's two errors lie in their variables. -/
def Errs (w : World) : Prop := (2 < w.heap.size ∧ ∃ t p, w.cell? ⟨2, 0, none⟩ = some (.iface t p)) ∧ (3 < w.heap.size ∧ ∃ t p, w.cell? ⟨3, 0, none⟩ = some (.iface t p))
theorem Errs.below {w w' : World} (h : Errs w) {B : Nat} (hb : Below B w w') (h1 : 2 < B) (h2 : 3 < B) : Errs w' := by
  obtain ⟨⟨a, t, p, e⟩, b, t2, p2, e2⟩ := h
  exact ⟨⟨Nat.lt_of_lt_of_le a hb.size, t, p, (hb.cell (p := ⟨2, 0, none⟩) h1).trans e⟩, Nat.lt_of_lt_of_le b hb.size, t2, p2, (hb.cell (p := ⟨3, 0, none⟩) h2).trans e2⟩
theorem implAtoi (s : ByteArray) (hs : s.size ≤ 1048576) (w : World) (hE : Errs w) :
    Calls Tryd.prog 48 #[.string s] w fun e w' => (∃ n er, e = .returned (.tuple #[.int .i64 n, er]) ∧ ((na s.data.toList = some n ∧ er = .nilIface) ∨ (na s.data.toList = none ∧ ∃ t p, er = .iface t p))) ∧ Below w.heap.size w w' := by
  obtain ⟨⟨_, t, p, e1⟩, _, t2, p2, e2⟩ := hE
  cases h : Lib.atoiAll s.data.toList with
  | ok v =>
    have hn : na s.data.toList = some v := by unfold na; rw [h]
    refine (Tryd.strconv_Atoi_ok s (by omega) v h w).mono fun e w' ⟨h1, h2⟩ => ⟨⟨v, _, h1, .inl ⟨hn, rfl⟩⟩, ?_⟩
    rcases h2 with rfl | ⟨t, rfl⟩
    · exact Below.refl _ _
    · exact ⟨rfl, rfl, rfl, by rw [Lib.bytesWorld_size]; omega, fun k hk => Lib.bytesWorld_at_old w _ t k (by omega)⟩
  | «syntax» =>
    have hn : na s.data.toList = none := by unfold na; rw [h]
    exact (Tryd.strconv_Atoi_syntax s (by omega) h _ w e1 (.inr ⟨t, p, rfl⟩)).mono fun e w' ⟨N, h1, _, _, h2⟩ => ⟨⟨_, _, h1, .inr ⟨hn, _, _, rfl⟩⟩, h2⟩
  | range =>
    have hn : na s.data.toList = none := by unfold na; rw [h]
    exact (Tryd.strconv_Atoi_range s (by omega) h _ w e2 (.inr ⟨t2, p2, rfl⟩)).mono fun e w' ⟨N, h1, _, _, h2⟩ => ⟨⟨_, _, h1, .inr ⟨hn, _, _, rfl⟩⟩, h2⟩

theorem rw_some {L : List Nd} {k : Nat} {s : List UInt8} {n : Int} (h : na s = some n) : rwM L (k : Int) s = L.modify k (fun x => (x.1, n, x.2.2)) := by
  unfold rwM
  rw [if_pos (by omega), h, Int.toNat_natCast]
theorem rw_none {L : List Nd} {a : Int} {s : List UInt8} (h : na s = none ∨ a < 0) : rwM L a s = if kn s = 0 then L else L ++ [(kn s, 0, a)] := by
  unfold rwM
  rcases h with h | h
  · rw [h]; split <;> simp_all
  · rw [if_neg (by omega)]

set_option maxRecDepth 100000 in
set_option maxHeartbeats 1600000 in
theorem implReadWord (B : Nat) (v : Value) (L : List Nd) (a : Int) (s : ByteArray) (w : World) (hO : NdO B w v L) (hB : B ≤ w.heap.size) (hT : Hid (Tabs w)) (hE : Hid (Errs w)) (ha : -1 ≤ a) (ha2 : a < L.length) (hl : L.length ≤ 1000) (hs : s.size ≤ 1048576) :
    Calls Tryd.prog 33 #[v, .int .i64 a, .string s] w fun e w' => ∃ v', e = .returned v' ∧ NdO B w' v' (rwM L a s.data.toList) ∧ Below B w w' := by
  have T := implAtoi s hs w hE.out
  have KN := implKindNamed s
  obtain ⟨sa, sc, rfl⟩ := ownsRow_shape hO
  obtain ⟨sl, hsl⟩ : ∃ l, s.data.toList = l := ⟨_, rfl⟩
  rw [hsl] at T KN ⊢
  have HO : Hid (NdO B w (.slice sa L.length sc) L) := hO
  have HB : Hid (B ≤ w.heap.size) := hB
  clear hO hB hs hsl
  go_enter Tryd.func33, Tryd.ntmps33
  go_wp2_with fail
  refine T.mono ?_
  rintro e w1 ⟨⟨n, er, rfl, her⟩, B1⟩
  have HB1 : Hid (Below w.heap.size w w1) := B1
  have HO1 : Hid (NdO B w1 (.slice sa L.length sc) L) := own_keep HO.out (fun q hq => B1.block q (HO.out.lt q hq).2)
  have hT1 : Hid (Tabs w1) := hT.out.below B1 (Nat.le_refl _)
  clear T B1
  by_cases hc : (∃ m, na sl = some m) ∧ 0 ≤ a
  · obtain ⟨⟨m, hm⟩, h0⟩ := hc
    rcases her with ⟨h1, rfl⟩ | ⟨h1, _⟩
    · rw [hm] at h1
      obtain rfl := Option.some.inj h1
      obtain ⟨k, rfl⟩ := Int.eq_ofNat_of_zero_le h0
      obtain ⟨g, c, hv, _⟩ := own_pos HO1.out (by omega)
      simp only [Value.slice.injEq, true_and] at hv
      obtain ⟨rfl, rfl⟩ := hv
      have hkl : k < L.length := by omega
      have hgB := (HO1.out.lt g rfl).1
      have c1 : w1.cell? ⟨g, k * 3 + 1, none⟩ = some (.int .i64 L[k].2.1) := (nd_of_own rfl HO1.out k hkl).2.1 |> fun h => by rw [Nat.zero_add] at h; exact h
      have f1 := HO1.out.frozenAt (k * 3 + 1)
      have HR : Hid (NdO B (w1.setCell ⟨g, k * 3 + 1, none⟩ (.int .i64 m)) (.slice (some ⟨g, 0, none⟩) L.length sc) (rwM L (k : Int) sl)) := by
        unfold Hid NdO
        rw [rw_some hm, ← ndv_setN L k hkl m, List.length_modify]
        exact own_set HO1.out _ _
      have HLL : Hid (B ≤ g) := hgB
      have hk2 : (k : Int) < (L.length : Int) := by omega
      clear KN hm ha hgB
      go_wp2
      go_ret
      exact ⟨_, rfl, HR.out, (HB1.out.mono HB.out).trans ((Below.refl _ _).setCell HLL.out _)⟩
    · rw [hm] at h1; cases h1
  · have HR : Hid (rwM L a sl = if kn sl = 0 then L else L ++ [(kn sl, 0, a)]) := rw_none (by
      cases hna : na sl with
      | none => exact .inl rfl
      | some m => exact .inr (by have : ¬ 0 ≤ a := fun h => hc ⟨⟨m, hna⟩, h⟩
                                 omega))
    have hst : (er = .nilIface ∧ a < 0) ∨ ∃ t p, er = .iface t p := by
      rcases her with ⟨h1, h2⟩ | ⟨_, h2⟩
      · refine .inl ⟨h2, ?_⟩
        have : ¬ 0 ≤ a := fun h => hc ⟨⟨n, h1⟩, h⟩
        omega
      · exact .inr h2
    have KK := KN w1 hT1.out
    obtain ⟨kk, hkk⟩ : ∃ x, kn sl = x := ⟨_, rfl⟩
    rw [hkk] at KK HR
    clear KN hc her hkk hE hT ha
    rcases hst with ⟨rfl, h0⟩ | ⟨t, p, rfl⟩
    · have hd : decide (0 ≤ a) = false := decide_eq_false (by omega)
      go_wp2_with fail
      refine KK.mono ?_
      rintro e w2 ⟨rfl, B2⟩
      have HB2 : Hid (Below w.heap.size w w2) := bel_step HB1.out B2
      have HO2 : Hid (NdO B w2 (.slice sa L.length sc) L) := own_keep HO1.out (fun q hq => B2.block q (HO1.out.lt q hq).2)
      have HS2 : Hid (B ≤ w2.heap.size) := Nat.le_trans HB.out HB2.out.size
      clear KK B2 HO1 HB1 hT1 HO
      by_cases hk0 : kk = 0
      · have HR0 : Hid (rwM L a sl = L) := by unfold Hid; rw [HR.out, if_pos hk0]
        subst hk0
        clear HR
        go_wp2
        go_ret
        exact ⟨_, rfl, by unfold NdO; rw [HR0.out]; exact HO2.out, HB2.out.mono HB.out⟩
      · have HR1 : Hid (rwM L a sl = L ++ [(kk, 0, a)]) := by unfold Hid; rw [HR.out, if_neg hk0]
        clear HR
        obtain ⟨X, hX⟩ : ∃ X, w2.alloc (.cells #[.int .i64 kk, .int .i64 0, .int .i64 a] 51) = X := ⟨_, rfl⟩
        obtain ⟨z, hz⟩ : ∃ z, w2.heap.size = z := ⟨_, rfl⟩
        have HX : Hid (X.heap[z]? = some (.cells #[.int .i64 kk, .int .i64 0, .int .i64 a] 51 (0, 0))) := by unfold Hid; rw [← hX, ← hz]; exact heap_alloc_new _ _
        have HOX : Hid (NdO B X (.slice sa L.length sc) L) := by unfold Hid; rw [← hX]; exact HO2.out.alloc _
        have HBX : Hid (Below B w X ∧ B ≤ X.heap.size) := by unfold Hid; rw [← hX]; exact ⟨(HB2.out.mono HB.out).trans (bel_alloc (Below.refl _ _) _ |>.mono HS2.out), by simp; have := HS2.out; omega⟩
        go_wp2_with (at_builtin; refine wpl_appNd _ rfl _ _ rfl B _ L rfl HOX.out z 0 1 [(kk, 0, a)] rfl ?c1 ?c2 ?c3 ?_)
        case c1 =>
          intro j u hu
          have hb := HX.out
          have hj : j = 0 ∨ j = 1 ∨ j = 2 := by
            have := (List.getElem?_eq_some_iff.1 hu).1
            simp [ndv] at this
            omega
          rcases hj with rfl | rfl | rfl
          · simp [ndv] at hu; subst hu; exact (cell_of_block hb 0).trans rfl
          · simp [ndv] at hu; subst hu; exact (cell_of_block hb 1).trans rfl
          · simp [ndv] at hu; subst hu; exact (cell_of_block hb 2).trans rfl
        case c2 => simp; omega
        case c3 => exact HBX.out.2
        intro v3 w3 hO3 hg3
        obtain ⟨a3, c3, e3⟩ := ownsRow_shape hO3
        subst e3
        have hb3 : Below B w w3 := HBX.out.1.trans ((Below.refl _ _).grown hg3 HBX.out.2 (fun q hq => (HOX.out.lt q hq).1))
        clear hX hz
        go_wp2
        go_ret
        exact ⟨_, rfl, by unfold NdO at hO3 ⊢; rw [HR1.out]; exact hO3, hb3⟩
    · have hcmp : ∀ w, (binOp .eql 80 (.iface t p) .nilIface).run Tryd.prog w = .ok (.bool false) w := fun w => rfl
      go_wp2_with fail
      refine KK.mono ?_
      rintro e w2 ⟨rfl, B2⟩
      have HB2 : Hid (Below w.heap.size w w2) := bel_step HB1.out B2
      have HO2 : Hid (NdO B w2 (.slice sa L.length sc) L) := own_keep HO1.out (fun q hq => B2.block q (HO1.out.lt q hq).2)
      have HS2 : Hid (B ≤ w2.heap.size) := Nat.le_trans HB.out HB2.out.size
      clear KK B2 HO1 HB1 hT1 HO
      by_cases hk0 : kk = 0
      · have HR0 : Hid (rwM L a sl = L) := by unfold Hid; rw [HR.out, if_pos hk0]
        subst hk0
        clear HR
        go_wp2
        go_ret
        exact ⟨_, rfl, by unfold NdO; rw [HR0.out]; exact HO2.out, HB2.out.mono HB.out⟩
      · have HR1 : Hid (rwM L a sl = L ++ [(kk, 0, a)]) := by unfold Hid; rw [HR.out, if_neg hk0]
        clear HR
        obtain ⟨X, hX⟩ : ∃ X, w2.alloc (.cells #[.int .i64 kk, .int .i64 0, .int .i64 a] 51) = X := ⟨_, rfl⟩
        obtain ⟨z, hz⟩ : ∃ z, w2.heap.size = z := ⟨_, rfl⟩
        have HX : Hid (X.heap[z]? = some (.cells #[.int .i64 kk, .int .i64 0, .int .i64 a] 51 (0, 0))) := by unfold Hid; rw [← hX, ← hz]; exact heap_alloc_new _ _
        have HOX : Hid (NdO B X (.slice sa L.length sc) L) := by unfold Hid; rw [← hX]; exact HO2.out.alloc _
        have HBX : Hid (Below B w X ∧ B ≤ X.heap.size) := by unfold Hid; rw [← hX]; exact ⟨(HB2.out.mono HB.out).trans (bel_alloc (Below.refl _ _) _ |>.mono HS2.out), by simp; have := HS2.out; omega⟩
        go_wp2_with (at_builtin; refine wpl_appNd _ rfl _ _ rfl B _ L rfl HOX.out z 0 1 [(kk, 0, a)] rfl ?c1 ?c2 ?c3 ?_)
        case c1 =>
          intro j u hu
          have hb := HX.out
          have hj : j = 0 ∨ j = 1 ∨ j = 2 := by
            have := (List.getElem?_eq_some_iff.1 hu).1
            simp [ndv] at this
            omega
          rcases hj with rfl | rfl | rfl
          · simp [ndv] at hu; subst hu; exact (cell_of_block hb 0).trans rfl
          · simp [ndv] at hu; subst hu; exact (cell_of_block hb 1).trans rfl
          · simp [ndv] at hu; subst hu; exact (cell_of_block hb 2).trans rfl
        case c2 => simp; omega
        case c3 => exact HBX.out.2
        intro v3 w3 hO3 hg3
        obtain ⟨a3, c3, e3⟩ := ownsRow_shape hO3
        subst e3
        have hb3 : Below B w w3 := HBX.out.1.trans ((Below.refl _ _).grown hg3 HBX.out.2 (fun q hq => (HOX.out.lt q hq).1))
        clear hX hz
        go_wp2
        go_ret
        exact ⟨_, rfl, by unfold NdO at hO3 ⊢; rw [HR1.out]; exact hO3, hb3⟩

end Go.Proofs.YtfepbjkfabmiiaaDoor
