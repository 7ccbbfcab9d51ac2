/-
  Types read from texts: a word is read.
-/
import Derived.Test.YtebendaiokchdaaDoorRD4
import Derived.Test.YtebendaiokchdaaDoorYPo
import Derived.Deep.CutRange
import Derived.Deep.DeepCutAuto
namespace Go.Proofs.YtebendaiokchdaaDoor
open Go.ChangeShapes Go.WideShapes Go.ChangeAt Go.RowKit Go.PlainAid Go.Shelf

theorem ndv_cons (x : Nd) (r : List Nd) : ndv (x :: r) = .int .i64 x.1 :: .int .i64 x.2.1 :: .int .i64 x.2.2 :: ndv r := rfl
theorem ndv_setN : ∀ (L : List Nd) (k : Nat) (_ : k < L.length) (n : Int), (ndv L).set (k * 3 + 1) (.int .i64 n) = ndv (L.modify k (fun x => (x.1, n, x.2.2)))
  | p :: r, 0, _, n => by simp [ndv]
  | p :: r, k + 1, h, n => by
    have ih := ndv_setN r k (by simpa using h) n
    rw [ndv_cons, show (k + 1) * 3 + 1 = k * 3 + 1 + 1 + 1 + 1 by omega, List.set_cons_succ, List.set_cons_succ, List.set_cons_succ, ih, List.modify_succ_cons, ndv_cons]
theorem ndv_one (L : List Nd) : ∀ u ∈ ndv L, u.oneCell' = true := by
  intro u hu
  obtain ⟨h, _, hx⟩ := List.mem_flatMap.1 hu
  simp at hx
  rcases hx with rfl | rfl | rfl <;> rfl
/-- A row of nodes of one's own. -/
abbrev NdO (B : Nat) (w : World) (v : Value) (L : List Nd) : Prop := w.ownsRow B 33 3 v L.length (ndv L)
theorem wpl_appNd (W : World) {ops : Array Oper} {rest : List Oper} {o : Oper} {a : Act} {Q : Exit → Act → World → Prop} (hgd : o.guard = none) (s x : Operand)
    (ho : o.op = .call { callee := .builtin .append, args := #[s, x], argTypes := #[23, 23] })
    (B : Nat) (v : Value) (L : List Nd) (hs : a.eval s = v) (h : NdO B W v L) (gs lo c : Nat) (X : List Nd) (hx : a.eval x = .slice (some ⟨gs, lo, none⟩) X.length c) (hc : ∀ (j : Nat) (u : Value), (ndv X)[j]? = some u → W.cell? ⟨gs, lo + j, none⟩ = some u) (hl : L.length + X.length ≤ 2000000) (hb : B ≤ W.heap.size)
    (hk : ∀ v' w', NdO B w' v' (L ++ X) → W.grownBy w' v.ownBlock → wpList Tryd.prog ops Q rest (a.put o.dst v') w') : wpList Tryd.prog ops Q (o :: rest) a W := by
  obtain ⟨i0, i0i, i00, i01, i02⟩ := info_parts Tryd.infoNd
  refine wpList_append_own W hgd s x 23 ho B 33 i0 (.agg #[.int .i64 0, .int .i64 0, .int .i64 0]) 3 24 Tryd.underlying23 i0i i00 i01 i02 rfl (by decide) v L.length (ndv L) hs h ⟨gs, lo, none⟩ X.length c (ndv X) hx (ndv_len X) (fun j u hu => by rw [Addr.add_lit]; exact hc j u hu) (ndv_one X) (by unfold maxLen; omega) (by omega) hb fun v' w' h2 h3 _ => hk v' w' ?_ h3
  rw [ndv_app] at h2
  unfold NdO
  rw [List.length_append]
  exact h2

/-- The library's two errors lie in their variables. -/
def Errs (w : World) : Prop := (3 < w.heap.size ∧ ∃ t p, w.cell? ⟨3, 0, none⟩ = some (.iface t p)) ∧ (4 < w.heap.size ∧ ∃ t p, w.cell? ⟨4, 0, none⟩ = some (.iface t p))
theorem Errs.below {w w' : World} (h : Errs w) {B : Nat} (hb : Below B w w') (h1 : 3 < B) (h2 : 4 < B) : Errs w' := by
  obtain ⟨⟨a, t, p, e⟩, b, t2, p2, e2⟩ := h
  exact ⟨⟨Nat.lt_of_lt_of_le a hb.size, t, p, (hb.cell (p := ⟨3, 0, none⟩) h1).trans e⟩, Nat.lt_of_lt_of_le b hb.size, t2, p2, (hb.cell (p := ⟨4, 0, none⟩) h2).trans e2⟩
theorem implAtoi (s : ByteArray) (hs : s.size ≤ 1048576) (w : World) (hE : Errs w) :
    Calls Tryd.prog 48 #[.string s] w fun e w' => (∃ n er, e = .returned (.tuple #[.int .i64 n, er]) ∧ ((na s.data.toList = some n ∧ er = .nilIface) ∨ (na s.data.toList = none ∧ ∃ t p, er = .iface t p))) ∧ Below w.heap.size w w' := by
  obtain ⟨⟨_, t, p, e1⟩, _, t2, p2, e2⟩ := hE
  cases h : Lib.atoiAll s.data.toList with
  | ok v =>
    have hn : na s.data.toList = some v := by unfold na; rw [h]
    refine (Tryd.strconv_Atoi_ok s (by omega) v h w).mono fun e w' ⟨h1, h2⟩ => ⟨⟨v, _, h1, .inl ⟨hn, rfl⟩⟩, ?_⟩
    rcases h2 with rfl | ⟨t, rfl⟩
    · exact Below.refl _ _
    · exact ⟨rfl, rfl, rfl, by rw [Lib.bytesWorld_size]; omega, fun k hk => Lib.bytesWorld_at_old w _ t k (by omega)⟩
  | «syntax» =>
    have hn : na s.data.toList = none := by unfold na; rw [h]
    exact (Tryd.strconv_Atoi_syntax s (by omega) h _ w e1 (.inr ⟨t, p, rfl⟩)).mono fun e w' ⟨N, h1, _, _, h2⟩ => ⟨⟨_, _, h1, .inr ⟨hn, _, _, rfl⟩⟩, h2⟩
  | range =>
    have hn : na s.data.toList = none := by unfold na; rw [h]
    exact (Tryd.strconv_Atoi_range s (by omega) h _ w e2 (.inr ⟨t2, p2, rfl⟩)).mono fun e w' ⟨N, h1, _, _, h2⟩ => ⟨⟨_, _, h1, .inr ⟨hn, _, _, rfl⟩⟩, h2⟩

theorem rw_some {L : List Nd} {k : Nat} {s : List UInt8} {n : Int} (h : na s = some n) : rwM L (k : Int) s = L.modify k (fun x => (x.1, n, x.2.2)) := by
  unfold rwM
  rw [if_pos (by omega), h, Int.toNat_natCast]
theorem rw_none {L : List Nd} {a : Int} {s : List UInt8} (h : na s = none ∨ a < 0) : rwM L a s = if kn s = 0 then L else L ++ [(kn s, 0, a)] := by
  unfold rwM
  rcases h with h | h
  · rw [h]; split <;> simp_all
  · rw [if_neg (by omega)]

set_option maxRecDepth 100000 in
set_option maxHeartbeats 1600000 in
theorem implReadWord (B : Nat) (v : Value) (L : List Nd) (a : Int) (s : ByteArray) (w : World) (hO : NdO B w v L) (hB : B ≤ w.heap.size) (hT : Hid (Tabs w)) (hE : Hid (Errs w)) (ha : -1 ≤ a) (ha2 : a < L.length) (hl : L.length ≤ 1000) (hs : s.size ≤ 1048576) :
    Calls Tryd.prog 32 #[v, .int .i64 a, .string s] w fun e w' => ∃ v', e = .returned v' ∧ NdO B w' v' (rwM L a s.data.toList) ∧ Below B w w' := by
  have T := implAtoi s hs w hE.out
  have KN := implKindNamed s
  obtain ⟨sa, sc, rfl⟩ := ownsRow_shape hO
  obtain ⟨sl, hsl⟩ : ∃ l, s.data.toList = l := ⟨_, rfl⟩
  rw [hsl] at T KN ⊢
  have HO : Hid (NdO B w (.slice sa L.length sc) L) := hO
  have HB : Hid (B ≤ w.heap.size) := hB
  clear hO hB hs hsl
  go_enter Tryd.func32, Tryd.ntmps32
  go_wp2_with fail
  refine T.mono ?_
  rintro e w1 ⟨⟨n, er, rfl, her⟩, B1⟩
  have HB1 : Hid (Below w.heap.size w w1) := B1
  have HO1 : Hid (NdO B w1 (.slice sa L.length sc) L) := own_keep HO.out (fun q hq => B1.block q (HO.out.lt q hq).2)
  have hT1 : Hid (Tabs w1) := hT.out.below B1 (Nat.le_refl _)
  clear T B1
  by_cases hc : (∃ m, na sl = some m) ∧ 0 ≤ a
  · obtain ⟨⟨m, hm⟩, h0⟩ := hc
    rcases her with ⟨h1, rfl⟩ | ⟨h1, _⟩
    · rw [hm] at h1
      obtain rfl := Option.some.inj h1
      obtain ⟨k, rfl⟩ := Int.eq_ofNat_of_zero_le h0
      obtain ⟨g, c, hv, _⟩ := own_pos HO1.out (by omega)
      simp only [Value.slice.injEq, true_and] at hv
      obtain ⟨rfl, rfl⟩ := hv
      have hkl : k < L.length := by omega
      have hgB := (HO1.out.lt g rfl).1
      have c1 : w1.cell? ⟨g, k * 3 + 1, none⟩ = some (.int .i64 L[k].2.1) := (nd_of_own rfl HO1.out k hkl).2.1 |> fun h => by rw [Nat.zero_add] at h; exact h
      have f1 := HO1.out.frozenAt (k * 3 + 1)
      have HR : Hid (NdO B (w1.setCell ⟨g, k * 3 + 1, none⟩ (.int .i64 m)) (.slice (some ⟨g, 0, none⟩) L.length sc) (rwM L (k : Int) sl)) := by
        unfold Hid NdO
        rw [rw_some hm, ← ndv_setN L k hkl m, List.length_modify]
        exact own_set HO1.out _ _
      have HLL : Hid (B ≤ g) := hgB
      have hk2 : (k : Int) < (L.length : Int) := by omega
      clear KN hm ha hgB
      go_wp2
      go_ret
      exact ⟨_, rfl, HR.out, (HB1.out.mono HB.out).trans ((Below.refl _ _).setCell HLL.out _)⟩
    · rw [hm] at h1; cases h1
  · have HR : Hid (rwM L a sl = if kn sl = 0 then L else L ++ [(kn sl, 0, a)]) := rw_none (by
      cases hna : na sl with
      | none => exact .inl rfl
      | some m => exact .inr (by have : ¬ 0 ≤ a := fun h => hc ⟨⟨m, hna⟩, h⟩
                                 omega))
    have hst : (er = .nilIface ∧ a < 0) ∨ ∃ t p, er = .iface t p := by
      rcases her with ⟨h1, h2⟩ | ⟨_, h2⟩
      · refine .inl ⟨h2, ?_⟩
        have : ¬ 0 ≤ a := fun h => hc ⟨⟨n, h1⟩, h⟩
        omega
      · exact .inr h2
    have KK := KN w1 hT1.out
    obtain ⟨kk, hkk⟩ : ∃ x, kn sl = x := ⟨_, rfl⟩
    rw [hkk] at KK HR
    clear KN hc her hkk hE hT ha
    rcases hst with ⟨rfl, h0⟩ | ⟨t, p, rfl⟩
    · have hd : decide (0 ≤ a) = false := decide_eq_false (by omega)
      go_wp2_with fail
      refine KK.mono ?_
      rintro e w2 ⟨rfl, B2⟩
      have HB2 : Hid (Below w.heap.size w w2) := bel_step HB1.out B2
      have HO2 : Hid (NdO B w2 (.slice sa L.length sc) L) := own_keep HO1.out (fun q hq => B2.block q (HO1.out.lt q hq).2)
      have HS2 : Hid (B ≤ w2.heap.size) := Nat.le_trans HB.out HB2.out.size
      clear KK B2 HO1 HB1 hT1 HO
      by_cases hk0 : kk = 0
      · have HR0 : Hid (rwM L a sl = L) := by unfold Hid; rw [HR.out, if_pos hk0]
        subst hk0
        clear HR
        go_wp2
        go_ret
        exact ⟨_, rfl, by unfold NdO; rw [HR0.out]; exact HO2.out, HB2.out.mono HB.out⟩
      · have HR1 : Hid (rwM L a sl = L ++ [(kk, 0, a)]) := by unfold Hid; rw [HR.out, if_neg hk0]
        clear HR
        obtain ⟨X, hX⟩ : ∃ X, w2.alloc (.cells #[.int .i64 kk, .int .i64 0, .int .i64 a] 33) = X := ⟨_, rfl⟩
        obtain ⟨z, hz⟩ : ∃ z, w2.heap.size = z := ⟨_, rfl⟩
        have HX : Hid (X.heap[z]? = some (.cells #[.int .i64 kk, .int .i64 0, .int .i64 a] 33 (0, 0))) := by unfold Hid; rw [← hX, ← hz]; exact heap_alloc_new _ _
        have HOX : Hid (NdO B X (.slice sa L.length sc) L) := by unfold Hid; rw [← hX]; exact HO2.out.alloc _
        have HBX : Hid (Below B w X ∧ B ≤ X.heap.size) := by unfold Hid; rw [← hX]; exact ⟨(HB2.out.mono HB.out).trans (bel_alloc (Below.refl _ _) _ |>.mono HS2.out), by simp; have := HS2.out; omega⟩
        go_wp2_with (at_builtin; refine wpl_appNd _ rfl _ _ rfl B _ L rfl HOX.out z 0 1 [(kk, 0, a)] rfl ?c1 ?c2 ?c3 ?_)
        case c1 =>
          intro j u hu
          have hb := HX.out
          have hj : j = 0 ∨ j = 1 ∨ j = 2 := by
            have := (List.getElem?_eq_some_iff.1 hu).1
            simp [ndv] at this
            omega
          rcases hj with rfl | rfl | rfl
          · simp [ndv] at hu; subst hu; exact (cell_of_block hb 0).trans rfl
          · simp [ndv] at hu; subst hu; exact (cell_of_block hb 1).trans rfl
          · simp [ndv] at hu; subst hu; exact (cell_of_block hb 2).trans rfl
        case c2 => simp; omega
        case c3 => exact HBX.out.2
        intro v3 w3 hO3 hg3
        obtain ⟨a3, c3, e3⟩ := ownsRow_shape hO3
        subst e3
        have hb3 : Below B w w3 := HBX.out.1.trans ((Below.refl _ _).grown hg3 HBX.out.2 (fun q hq => (HOX.out.lt q hq).1))
        clear hX hz
        go_wp2
        go_ret
        exact ⟨_, rfl, by unfold NdO at hO3 ⊢; rw [HR1.out]; exact hO3, hb3⟩
    · have hcmp : ∀ w, (binOp .eql 83 (.iface t p) .nilIface).run Tryd.prog w = .ok (.bool false) w := fun w => rfl
      go_wp2_with fail
      refine KK.mono ?_
      rintro e w2 ⟨rfl, B2⟩
      have HB2 : Hid (Below w.heap.size w w2) := bel_step HB1.out B2
      have HO2 : Hid (NdO B w2 (.slice sa L.length sc) L) := own_keep HO1.out (fun q hq => B2.block q (HO1.out.lt q hq).2)
      have HS2 : Hid (B ≤ w2.heap.size) := Nat.le_trans HB.out HB2.out.size
      clear KK B2 HO1 HB1 hT1 HO
      by_cases hk0 : kk = 0
      · have HR0 : Hid (rwM L a sl = L) := by unfold Hid; rw [HR.out, if_pos hk0]
        subst hk0
        clear HR
        go_wp2
        go_ret
        exact ⟨_, rfl, by unfold NdO; rw [HR0.out]; exact HO2.out, HB2.out.mono HB.out⟩
      · have HR1 : Hid (rwM L a sl = L ++ [(kk, 0, a)]) := by unfold Hid; rw [HR.out, if_neg hk0]
        clear HR
        obtain ⟨X, hX⟩ : ∃ X, w2.alloc (.cells #[.int .i64 kk, .int .i64 0, .int .i64 a] 33) = X := ⟨_, rfl⟩
        obtain ⟨z, hz⟩ : ∃ z, w2.heap.size = z := ⟨_, rfl⟩
        have HX : Hid (X.heap[z]? = some (.cells #[.int .i64 kk, .int .i64 0, .int .i64 a] 33 (0, 0))) := by unfold Hid; rw [← hX, ← hz]; exact heap_alloc_new _ _
        have HOX : Hid (NdO B X (.slice sa L.length sc) L) := by unfold Hid; rw [← hX]; exact HO2.out.alloc _
        have HBX : Hid (Below B w X ∧ B ≤ X.heap.size) := by unfold Hid; rw [← hX]; exact ⟨(HB2.out.mono HB.out).trans (bel_alloc (Below.refl _ _) _ |>.mono HS2.out), by simp; have := HS2.out; omega⟩
        go_wp2_with (at_builtin; refine wpl_appNd _ rfl _ _ rfl B _ L rfl HOX.out z 0 1 [(kk, 0, a)] rfl ?c1 ?c2 ?c3 ?_)
        case c1 =>
          intro j u hu
          have hb := HX.out
          have hj : j = 0 ∨ j = 1 ∨ j = 2 := by
            have := (List.getElem?_eq_some_iff.1 hu).1
            simp [ndv] at this
            omega
          rcases hj with rfl | rfl | rfl
          · simp [ndv] at hu; subst hu; exact (cell_of_block hb 0).trans rfl
          · simp [ndv] at hu; subst hu; exact (cell_of_block hb 1).trans rfl
          · simp [ndv] at hu; subst hu; exact (cell_of_block hb 2).trans rfl
        case c2 => simp; omega
        case c3 => exact HBX.out.2
        intro v3 w3 hO3 hg3
        obtain ⟨a3, c3, e3⟩ := ownsRow_shape hO3
        subst e3
        have hb3 : Below B w w3 := HBX.out.1.trans ((Below.refl _ _).grown hg3 HBX.out.2 (fun q hq => (HOX.out.lt q hq).1))
        clear hX hz
        go_wp2
        go_ret
        exact ⟨_, rfl, by unfold NdO at hO3 ⊢; rw [HR1.out]; exact hO3, hb3⟩

end Go.Proofs.YtebendaiokchdaaDoor

namespace Go.Proofs.YtebendaiokchdaaDoor
open Go.ChangeShapes Go.WideShapes Go.ChangeAt Go.RowKit Go.PlainAid Go.Shelf

theorem sg3_isD (c : UInt8) : sg3.data.toList.contains c = isD c := by
  have H : ∀ j : Fin 256, sg3.data.toList.contains (UInt8.ofNat j.val) = isD (UInt8.ofNat j.val) := by decide +kernel
  have h := H ⟨c.toNat, UInt8.toNat_lt c⟩
  simpa using h
theorem ia_split : ∀ l : List UInt8, (Lib.indexAny l sg3.data.toList = -1 ∧ ∀ c ∈ l, isD c = false) ∨ ∃ (k : Nat) (d : UInt8), k < l.length ∧ l[k]? = some d ∧ isD d = true ∧ Lib.indexAny l sg3.data.toList = (k : Int) ∧ ∀ c ∈ l.take k, isD c = false
  | [] => .inl ⟨rfl, by simp⟩
  | c :: l => by
    cases hc : isD c with
    | true =>
      refine .inr ⟨0, c, by simp, rfl, hc, ?_, by simp⟩
      have h := Lib.indexAny_hit (s := c :: l) (chars := sg3.data.toList) (i := 0) (x := c) (Lib.NoAny.zero _ _) rfl (by rw [sg3_isD]; exact hc)
      exact h
    | false =>
      have hn : sg3.data.toList.contains c = false := by rw [sg3_isD]; exact hc
      rcases ia_split l with ⟨h1, h2⟩ | ⟨k, d, h1, h2, h3, h4, h5⟩
      · left
        refine ⟨?_, fun x hx => ?_⟩
        · refine Lib.indexAny_none (fun j b hj hb => ?_)
          rw [sg3_isD]
          have hm : b ∈ c :: l := List.mem_iff_getElem?.2 ⟨j, hb⟩
          rcases List.mem_cons.1 hm with rfl | hm
          · exact hc
          · exact h2 b hm
        · rcases List.mem_cons.1 hx with rfl | hx
          · exact hc
          · exact h2 x hx
      · right
        refine ⟨k + 1, d, by simpa using h1, h2, h3, ?_, fun x hx => ?_⟩
        · refine Lib.indexAny_hit (i := k + 1) (x := d) (fun j b hj hb => ?_) (by simpa using h2) (by rw [sg3_isD]; exact h3)
          rw [sg3_isD]
          cases j with
          | zero => simp at hb; subst hb; exact hc
          | succ j =>
            have hb' : l[j]? = some b := by simpa using hb
            refine h5 b (List.mem_iff_getElem?.2 ⟨j, ?_⟩)
            rw [List.getElem?_take_of_lt (by omega)]
            exact hb'
        · rw [List.take_succ_cons] at hx
          rcases List.mem_cons.1 hx with rfl | hx
          · exact hc
          · exact h5 x hx
theorem nd2_none {l : List UInt8} (h : ∀ c ∈ l, isD c = false) (L : List Nd) (a : Int) : nd2 l [] L a = rwM L a l := by
  have h1 := nd2_word l [] [] L a h
  rw [List.append_nil, List.nil_append] at h1
  rw [h1, nd2]
theorem nd2_split {l : List UInt8} {k : Nat} {d : UInt8} (hk : k < l.length) (hd : l[k]? = some d) (hD : isD d = true) (h : ∀ c ∈ l.take k, isD c = false) (L : List Nd) (a : Int) : nd2 l [] L a = nd2 (l.drop (k + 1)) [] (rwM L a (l.take k)) (nxA d (rwM L a (l.take k)) a) := by
  have e : l = l.take k ++ d :: l.drop (k + 1) := by
    rw [List.getElem?_eq_getElem hk] at hd
    obtain rfl := Option.some.inj hd
    rw [List.getElem_cons_drop, List.take_append_drop]
  have h1 := nd2_word (l.take k) (d :: l.drop (k + 1)) [] L a h
  rw [← e, List.nil_append] at h1
  rw [h1, nd2_at hD]
/-- Nodes that lead to nodes that are there, or to none. -/
def UpI (L : List Nd) (a : Int) : Prop := (-1 ≤ a ∧ a < (L.length : Int)) ∧ ∀ i, i < L.length → -1 ≤ upAt L i ∧ upAt L i < (L.length : Int)
theorem upAt_modify (L : List Nd) (k i : Nat) (n : Int) : upAt (L.modify k (fun x => (x.1, n, x.2.2))) i = upAt L i := by
  unfold upAt
  rw [List.getD_eq_getElem?_getD, List.getD_eq_getElem?_getD, List.getElem?_modify]
  cases L[i]? with
  | none => rfl
  | some x => by_cases h : k = i <;> simp [h]
theorem upI_rw {L : List Nd} {a : Int} (h : UpI L a) (w : List UInt8) : UpI (rwM L a w) a ∧ (rwM L a w).length ≤ L.length + 1 := by
  unfold rwM
  split
  · refine ⟨⟨by rw [List.length_modify]; exact h.1, fun i hi => ?_⟩, by rw [List.length_modify]; omega⟩
    rw [List.length_modify] at hi ⊢
    rw [upAt_modify]
    exact h.2 i hi
  · split
    · exact ⟨h, by omega⟩
    · refine ⟨⟨⟨h.1.1, by have := h.1.2; simp; omega⟩, fun i hi => ?_⟩, by simp⟩
      have hl : (L ++ [(kn w, 0, a)]).length = L.length + 1 := by simp
      rw [hl] at hi ⊢
      rcases Nat.lt_or_ge i L.length with h1 | h1
      · have : upAt (L ++ [(kn w, 0, a)]) i = upAt L i := by
          unfold upAt
          rw [List.getD_eq_getElem?_getD, List.getD_eq_getElem?_getD, List.getElem?_append_left h1]
        rw [this]
        have := h.2 i h1
        omega
      · have : upAt (L ++ [(kn w, 0, a)]) i = a := by
          unfold upAt
          rw [List.getD_eq_getElem?_getD, List.getElem?_append_right h1, show i - L.length = 0 by omega]
          rfl
        rw [this]
        have := h.1
        omega
theorem upI_nx {L : List Nd} {a : Int} (h : UpI L a) (d : UInt8) : UpI L (nxA d L a) := by
  refine ⟨?_, h.2⟩
  unfold nxA
  split
  · omega
  · split
    · rename_i h1
      exact h.2 a.toNat (by have := h.1.2; omega)
    · exact h.1
theorem ext_take (s : ByteArray) (k : Nat) : (s.extract 0 k).data.toList = s.data.toList.take k := by
  simp [ByteArray.data_extract, Array.toList_extract, List.extract_eq_take_drop]
theorem ext_drop (s : ByteArray) (k : Nat) : (s.extract k s.size).data.toList = s.data.toList.drop k := by
  simp only [ByteArray.data_extract, Array.toList_extract, List.extract_eq_take_drop]
  refine List.take_of_length_le ?_
  simp
theorem str_nilR (r : ByteArray) (h : r.size = 0) : r = ⟨#[]⟩ := by
  apply ByteArray.ext
  have : r.data.size = 0 := h
  simpa using Array.eq_empty_of_size_eq_zero this
theorem str_neR (r : ByteArray) (h : 0 < r.size) : r.toList.isEmpty = false := by
  rw [ByteArray.toList_eq]
  cases hl : r.data.toList with
  | nil => exfalso; have h2 : r.data.toList.length = r.size := by simp
           rw [hl] at h2; simp at h2; omega
  | cons _ _ => rfl
theorem q_facts {q : Nat} {s : ByteArray} (h : q < s.size) (hs : s.size ≤ 400) : wrap64 ((q : Int) + 1) = (q : Int) + 1 ∧ (q : Int) + 1 ≤ (s.size : Int) ∧ (0 : Int) ≤ (q : Int) + 1 ∧ (s.extract (q + 1) s.size).size < s.size ∧ (0 : Int) ≤ (q : Int) ∧ (q : Int) ≤ (s.size : Int) := by
  refine ⟨by unfold wrap64; omega, by omega, by omega, by simp; omega, by omega, by omega⟩
theorem l_fact {n : Nat} (h : n ≤ 401) : wrap64 ((n : Int) - 1) = (n : Int) - 1 := by unfold wrap64; omega
theorem d_cases {d : UInt8} (h : isD d = true) : d = 60 ∨ d = 44 ∨ d = 62 := by
  unfold isD at h
  simpa using h

set_option maxRecDepth 100000 in
set_option maxHeartbeats 1600000 in
theorem implNodesIn (s0 : ByteArray) (hs : s0.size ≤ 400) (w : World) (hT : Hid (Tabs w)) (hE : Hid (Errs w)) (hg : Hid (0 < w.heap.size ∧ 3 < w.heap.size ∧ 4 < w.heap.size)) :
    Calls Tryd.prog 16 #[.string s0] w fun e w' => ∃ v, e = .returned v ∧ NdO w.heap.size w' v (nd2 s0.data.toList [] [] (-1)) ∧ Below w.heap.size w w' := by
  obtain ⟨R, hR⟩ : ∃ R, nd2 s0.data.toList [] [] (-1) = R := ⟨_, rfl⟩
  rw [hR]
  obtain ⟨n0, hn0⟩ : ∃ n, s0.size = n := ⟨_, rfl⟩
  rw [hn0] at hs
  have HN0 : Hid (nd2 s0.data.toList [] [] (-1) = R ∧ s0.size = n0) := ⟨hR, hn0⟩
  clear hR hn0
  go_enter Tryd.func16, Tryd.ntmps16
  go_wp2
  go_loopw [0, 3, 4] (fun x v a wr => ∃ (s : ByteArray) (L : List Nd) (k : Int), x = .string s ∧ a = .int .i64 k ∧ Hid (NdO w.heap.size wr v L) ∧ Hid (Below w.heap.size w wr) ∧ Hid (nd2 s.data.toList [] L k = R) ∧ Hid (UpI L k ∧ L.length + s.size ≤ n0)) (fun x _ _ _ => (match x with | .string s => s.size | _ => 0))
  case atStart => exact ⟨s0, [], -1, rfl, rfl, World.ownsRow_nil _ _ _ _, Below.refl _ _, HN0.out.1, ⟨⟨⟨by omega, by simp⟩, fun i hi => by simp at hi⟩, by have := HN0.out.2; simp; omega⟩⟩
  case round =>
    obtain ⟨s, L, k, rfl, rfl, HO, HB, HR, HU⟩ := hrel
    obtain ⟨sa, sc, hsv⟩ := ownsRow_shape HO.out
    subst hsv
    by_cases h0 : s.size = 0
    · obtain rfl : s = ⟨#[]⟩ := str_nilR s h0
      have HR2 : Hid (L = R) := by have h := HR.out; have e : ((⟨#[]⟩ : ByteArray).data.toList) = [] := rfl; rw [e, nd2, rw_nil] at h; exact h
      go_wp2
      go_ret
      exact ⟨_, rfl, by rw [← HR2.out]; exact HO.out, HB.out⟩
    · have hem : s.toList.isEmpty = false := str_neR s (by omega)
      have hsz : s.size ≤ 400 := by have := HU.out.2; omega
      have IA := anyIdx s (by omega)
      have HG := hg.out
      rcases ia_split s.data.toList with ⟨hi1, hi2⟩ | ⟨q, d, hq, hd, hD, hi1, hi2⟩
      · rw [hi1] at IA
        have HR2 : Hid (rwM L k s.data.toList = R) := by unfold Hid; rw [← nd2_none hi2]; exact HR.out
        clear hi1 hi2
        go_wp2_with fail
        refine (IA _).mono ?_
        rintro e w1 ⟨rfl, B1⟩
        have HO1 : Hid (NdO w.heap.size w1 (.slice sa L.length sc) L) := own_keep HO.out (fun q hq => B1.block q (HO.out.lt q hq).2)
        have HB1 : Hid (Below w.heap.size w w1) := bel_step HB.out B1
        have RWC := implReadWord w.heap.size (.slice sa L.length sc) L k s w1 HO1.out HB1.out.size (hT.out.below HB1.out (Nat.le_refl _)) (hE.out.below HB1.out HG.2.1 HG.2.2) HU.out.1.1.1 HU.out.1.1.2 (by have := HU.out.2; omega) (by omega)
        clear IA B1 HO HB
        go_wp2_with fail
        refine RWC.mono ?_
        rintro e w2 ⟨v', rfl, hO2, hb2⟩
        have HO2 : Hid (NdO w.heap.size w2 v' R) := by unfold Hid; rw [← HR2.out]; exact hO2
        have HB2 : Hid (Below w.heap.size w w2) := HB1.out.trans hb2
        clear RWC hO2 hb2
        go_wp2
        go_ret
        exact ⟨_, rfl, HO2.out, HB2.out⟩
      · have hql : q < s.size := by simpa using hq
        have fq : Hid (wrap64 ((q : Int) + 1) = (q : Int) + 1 ∧ (q : Int) + 1 ≤ (s.size : Int) ∧ (0 : Int) ≤ (q : Int) + 1 ∧ (s.extract (q + 1) s.size).size < s.size ∧ (0 : Int) ≤ (q : Int) ∧ (q : Int) ≤ (s.size : Int)) := q_facts hql hsz
        rw [hi1] at IA
        have HR2 : Hid (nd2 (s.data.toList.drop (q + 1)) [] (rwM L k (s.data.toList.take q)) (nxA d (rwM L k (s.data.toList.take q)) k) = R) := by unfold Hid; rw [← nd2_split hq hd hD hi2]; exact HR.out
        have hqn : ((q : Int) == -1) = false := by rw [beq_eq_false_iff_ne]; omega
        have e0 := get_bt s q hql
        have hbd : bt s q = (d.toNat : Int) := by
          rw [← e0]
          have h1 : s.data.toList[q]? = some (s[q]'hql) := Lib.data_getElem? s q hql
          rw [hd] at h1
          rw [Option.some.inj h1]
        rw [hbd] at e0
        clear hi1 hi2 hd hbd HR
        go_wp2_with fail
        refine (IA _).mono ?_
        rintro e w1 ⟨rfl, B1⟩
        have HO1 : Hid (NdO w.heap.size w1 (.slice sa L.length sc) L) := own_keep HO.out (fun q hq => B1.block q (HO.out.lt q hq).2)
        have HB1 : Hid (Below w.heap.size w w1) := bel_step HB.out B1
        have RWC := implReadWord w.heap.size (.slice sa L.length sc) L k (s.extract 0 q) w1 HO1.out HB1.out.size (hT.out.below HB1.out (Nat.le_refl _)) (hE.out.below HB1.out HG.2.1 HG.2.2) HU.out.1.1.1 HU.out.1.1.2 (by have := HU.out.2; omega) (by simp; omega)
        rw [ext_take] at RWC
        clear IA B1 HO HB
        have hq0 := fq.out.2.2.2.2.1
        have hq1 := fq.out.2.2.2.2.2
        go_wp2_with fail
        refine RWC.mono ?_
        rintro e w2 ⟨v', rfl, hO2, hb2⟩
        have HB2 : Hid (Below w.heap.size w w2) := HB1.out.trans hb2
        obtain ⟨h1, h2⟩ := upI_rw HU.out.1 (s.data.toList.take q)
        obtain ⟨L', hL'⟩ : ∃ L', rwM L k (s.data.toList.take q) = L' := ⟨_, rfl⟩
        rw [hL'] at hO2 h1 h2 HR2
        have HO2 : Hid (NdO w.heap.size w2 v' L') := hO2
        obtain ⟨a2, c2, e2⟩ := ownsRow_shape hO2
        subst e2
        have hnsz : (s.extract (q + 1) s.size).size = s.size - (q + 1) := by simp
        have HU2 : Hid (UpI L' (nxA d L' k) ∧ L'.length + (s.extract (q + 1) s.size).size ≤ n0) := ⟨upI_nx h1 d, by rw [hnsz]; have := HU.out.2; omega⟩
        have HR3 : Hid (nd2 (s.extract (q + 1) s.size).data.toList [] L' (nxA d L' k) = R) := by unfold Hid; rw [ext_drop]; exact HR2.out
        have hkl : k < (L'.length : Int) := h1.1.2
        have hl41 : L'.length ≤ 401 := Nat.le_trans h2 (Nat.succ_le_succ (Nat.le_trans (Nat.le_trans (Nat.le_add_right _ _) HU.out.2) hs))
        have hwq := fq.out.1
        have hq2 := fq.out.2.1
        have hqs := fq.out.2.2.1
        have hsm := fq.out.2.2.2.1
        clear RWC hO2 hb2 h1 h2 hL' HR2 HO1 HB1 HU hnsz
        rcases d_cases hD with rfl | rfl | rfl
        · have HN : Hid (nxA 60 L' k = (L'.length : Int) - 1) := by unfold Hid nxA; rw [if_pos rfl]
          have hwl := l_fact hl41
          have e1 : ((s[q]'hql).toNat : Int) = 60 := e0
          clear e0 hl41 hD fq
          go_wp2
          go_roundw
          case rel => exact ⟨_, L', _, rfl, (by rw [HN.out, hwl]), HO2.out, HB2.out, HR3.out, HU2.out⟩
          case measure => exact hsm
        · have HN : Hid (nxA 44 L' k = k) := by unfold Hid nxA; rw [if_neg (by decide), if_neg (fun h => absurd h.1 (by decide))]
          have e1 : ((s[q]'hql).toNat : Int) = 44 := e0
          clear e0 hl41 hD fq
          go_wp2
          go_roundw
          case rel => exact ⟨_, L', _, rfl, (by rw [HN.out]), HO2.out, HB2.out, HR3.out, HU2.out⟩
          case measure => exact hsm
        · have e1 : ((s[q]'hql).toNat : Int) = 62 := e0
          clear e0 hl41 hD fq
          by_cases hk0 : 0 ≤ k
          · obtain ⟨m, rfl⟩ := Int.eq_ofNat_of_zero_le hk0
            have hml : m < L'.length := by omega
            have HN : Hid (nxA 62 L' (m : Int) = upAt L' m) := by unfold Hid nxA; rw [if_neg (by decide), if_pos ⟨rfl, hk0⟩, Int.toNat_natCast]
            obtain ⟨g, c, hv, _⟩ := own_pos HO2.out (by omega)
            simp only [Value.slice.injEq, true_and] at hv
            obtain ⟨rfl, rfl⟩ := hv
            have c1 : w2.cell? ⟨g, m * 3 + 2, none⟩ = some (.int .i64 (upAt L' m)) := by
              have h := (nd_of_own rfl HO2.out m hml).2.2
              rw [Nat.zero_add] at h
              rw [h]
              unfold upAt
              rw [List.getD_eq_getElem?_getD, List.getElem?_eq_getElem hml]
              rfl
            go_wp2
            go_roundw
            case rel => exact ⟨_, L', _, rfl, (by rw [HN.out]), HO2.out, HB2.out, HR3.out, HU2.out⟩
            case measure => exact hsm
          · have HN : Hid (nxA 62 L' k = k) := by unfold Hid nxA; rw [if_neg (by decide), if_neg (fun h => hk0 h.2)]
            have hd0 : decide (0 ≤ k) = false := decide_eq_false hk0
            go_wp2
            go_roundw
            case rel => exact ⟨_, L', _, rfl, (by rw [HN.out]), HO2.out, HB2.out, HR3.out, HU2.out⟩
            case measure => exact hsm

end Go.Proofs.YtebendaiokchdaaDoor
