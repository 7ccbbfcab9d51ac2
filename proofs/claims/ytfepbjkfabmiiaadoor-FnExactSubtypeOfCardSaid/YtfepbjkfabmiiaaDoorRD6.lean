/-
  Types read from texts: the program's nodes of a text.
-/
import Derived.Test.YtfepbjkfabmiiaaDoorRD5
namespace Go.Proofs.YtfepbjkfabmiiaaDoor
open Go.ChangeShapes Go.WideShapes Go.ChangeAt Go.RowKit Go.PlainAid Go.Shelf

theorem sg3_isD (c : UInt8) : sg3.data.toList.contains c = isD c := by
  have H : ∀ j : Fin 256, sg3.data.toList.contains (UInt8.ofNat j.val) = isD (UInt8.ofNat j.val) := by decide +kernel
  have h := H ⟨c.toNat, UInt8.toNat_lt c⟩
  simpa using h
theorem ia_split : ∀ l : List UInt8, (Lib.indexAny l sg3.data.toList = -1 ∧ ∀ c ∈ l, isD c = false) ∨ ∃ (k : Nat) (d : UInt8), k < l.length ∧ l[k]? = some d ∧ isD d = true ∧ Lib.indexAny l sg3.data.toList = (k : Int) ∧ ∀ c ∈ l.take k, isD c = false
  | [] => .inl ⟨rfl, by simp⟩
  | c :: l => by
    cases hc : isD c with
    | true =>
      refine .inr ⟨0, c, by simp, rfl, hc, ?_, by simp⟩
      have h := Lib.indexAny_hit (s := c :: l) (chars := sg3.data.toList) (i := 0) (x := c) (Lib.NoAny.zero _ _) rfl (by rw [sg3_isD]; exact hc)
      exact h
    | false =>
      have hn : sg3.data.toList.contains c = false := by rw [sg3_isD]; exact hc
      rcases ia_split l with ⟨h1, h2⟩ | ⟨k, d, h1, h2, h3, h4, h5⟩
      · left
        refine ⟨?_, fun x hx => ?_⟩
        · refine Lib.indexAny_none (fun j b hj hb => ?_)
          rw [sg3_isD]
          have hm : b ∈ c :: l := List.mem_iff_getElem?.2 ⟨j, hb⟩
          rcases List.mem_cons.1 hm with rfl | hm
          · exact hc
          · exact h2 b hm
        · rcases List.mem_cons.1 hx with rfl | hx
          · exact hc
          · exact h2 x hx
      · right
        refine ⟨k + 1, d, by simpa using h1, h2, h3, ?_, fun x hx => ?_⟩
        · refine Lib.indexAny_hit (i := k + 1) (x := d) (fun j b hj hb => ?_) (by simpa using h2) (by rw [sg3_isD]; exact h3)
          rw [sg3_isD]
          cases j with
          | zero => simp at hb; subst hb; exact hc
          | succ j =>
            have hb' : l[j]? = some b := by simpa using hb
            refine h5 b (List.mem_iff_getElem?.2 ⟨j, ?_⟩)
            rw [List.getElem?_take_of_lt (by omega)]
            exact hb'
        · rw [List.take_succ_cons] at hx
          rcases List.mem_cons.1 hx with rfl | hx
          · exact hc
          · exact h5 x hx
theorem nd2_none {l : List UInt8} (h : ∀ c ∈ l, isD c = false) (L : List Nd) (a : Int) : nd2 l [] L a = rwM L a l := by
  have h1 := nd2_word l [] [] L a h
  rw [List.append_nil, List.nil_append] at h1
  rw [h1, nd2]
theorem nd2_split {l : List UInt8} {k : Nat} {d : UInt8} (hk : k < l.length) (hd : l[k]? = some d) (hD : isD d = true) (h : ∀ c ∈ l.take k, isD c = false) (L : List Nd) (a : Int) : nd2 l [] L a = nd2 (l.drop (k + 1)) [] (rwM L a (l.take k)) (nxA d (rwM L a (l.take k)) a) := by
  have e : l = l.take k ++ d :: l.drop (k + 1) := by
    rw [List.getElem?_eq_getElem hk] at hd
    obtain rfl := Option.some.inj hd
    rw [List.getElem_cons_drop, List.take_append_drop]
  have h1 := nd2_word (l.take k) (d :: l.drop (k + 1)) [] L a h
  rw [← e, List.nil_append] at h1
  rw [h1, nd2_at hD]
/-- Nodes that lead to nodes that are there, or to none. -/
def UpI (L : List Nd) (a : Int) : Prop := (-1 ≤ a ∧ a < (L.length : Int)) ∧ ∀ i, i < L.length → -1 ≤ upAt L i ∧ upAt L i < (L.length : Int)
theorem upAt_modify (L : List Nd) (k i : Nat) (n : Int) : upAt (L.modify k (fun x => (x.1, n, x.2.2))) i = upAt L i := by
  unfold upAt
  rw [List.getD_eq_getElem?_getD, List.getD_eq_getElem?_getD, List.getElem?_modify]
  cases L[i]? with
  | none => rfl
  | some x => by_cases h : k = i <;> simp [h]
theorem upI_rw {L : List Nd} {a : Int} (h : UpI L a) (w : List UInt8) : UpI (rwM L a w) a ∧ (rwM L a w).length ≤ L.length + 1 := by
  unfold rwM
  split
  · refine ⟨⟨by rw [List.length_modify]; exact h.1, fun i hi => ?_⟩, by rw [List.length_modify]; omega⟩
    rw [List.length_modify] at hi ⊢
    rw [upAt_modify]
    exact h.2 i hi
  · split
    · exact ⟨h, by omega⟩
    · refine ⟨⟨⟨h.1.1, by have := h.1.2; simp; omega⟩, fun i hi => ?_⟩, by simp⟩
      have hl : (L ++ [(kn w, 0, a)]).length = L.length + 1 := by simp
      rw [hl] at hi ⊢
      rcases Nat.lt_or_ge i L.length with h1 | h1
      · have : upAt (L ++ [(kn w, 0, a)]) i = upAt L i := by
          unfold upAt
          rw [List.getD_eq_getElem?_getD, List.getD_eq_getElem?_getD, List.getElem?_append_left h1]
        rw [this]
        have := h.2 i h1
        omega
      · have : upAt (L ++ [(kn w, 0, a)]) i = a := by
          unfold upAt
          rw [List.getD_eq_getElem?_getD, List.getElem?_append_right h1, show i - L.length = 0 by omega]
          rfl
        rw [this]
        have := h.1
        omega
theorem upI_nx {L : List Nd} {a : Int} (h : UpI L a) (d : UInt8) : UpI L (nxA d L a) := by
  refine ⟨?_, h.2⟩
  unfold nxA
  split
  · omega
  · split
    · rename_i h1
      exact h.2 a.toNat (by have := h.1.2; omega)
    · exact h.1
theorem ext_take (s : ByteArray) (k : Nat) : (s.extract 0 k).data.toList = s.data.toList.take k := by
  simp [ByteArray.data_extract, Array.toList_extract, List.extract_eq_take_drop]
theorem ext_drop (s : ByteArray) (k : Nat) : (s.extract k s.size).data.toList = s.data.toList.drop k := by
  simp only [ByteArray.data_extract, Array.toList_extract, List.extract_eq_take_drop]
  refine List.take_of_length_le ?_
  simp
theorem str_nilR (r : ByteArray) (h : r.size = 0) : r = ⟨#[]⟩ := by
  apply ByteArray.ext
  have : r.data.size = 0 := h
  simpa using Array.eq_empty_of_size_eq_zero this
theorem str_neR (r : ByteArray) (h : 0 < r.size) : r.toList.isEmpty = false := by
  rw [ByteArray.toList_eq]
  cases hl : r.data.toList with
  | nil => exfalso; have h2 : r.data.toList.length = r.size := by simp
           rw [hl] at h2; simp at h2; omega
  | cons _ _ => rfl
theorem q_facts {q : Nat} {s : ByteArray} (h : q < s.size) (hs : s.size ≤ 400) : wrap64 ((q : Int) + 1) = (q : Int) + 1 ∧ (q : Int) + 1 ≤ (s.size : Int) ∧ (0 : Int) ≤ (q : Int) + 1 ∧ (s.extract (q + 1) s.size).size < s.size ∧ (0 : Int) ≤ (q : Int) ∧ (q : Int) ≤ (s.size : Int) := by
  refine ⟨by unfold wrap64; omega, by omega, by omega, by simp; omega, by omega, by omega⟩
theorem l_fact {n : Nat} (h : n ≤ 401) : wrap64 ((n : Int) - 1) = (n : Int) - 1 := by unfold wrap64; omega
theorem d_cases {d : UInt8} (h : isD d = true) : d = 60 ∨ d = 44 ∨ d = 62 := by
  unfold isD at h
  simpa using h

set_option maxRecDepth 100000 in
set_option maxHeartbeats 1600000 in
theorem implNodesIn (s0 : ByteArray) (hs : s0.size ≤ 400) (w : World) (hT : Hid (Tabs w)) (hE : Hid (Errs w)) (hg : Hid (0 < w.heap.size ∧ 2 < w.heap.size ∧ 3 < w.heap.size)) :
    Calls Tryd.prog 20 #[.string s0] w fun e w' => ∃ v, e = .returned v ∧ NdO w.heap.size w' v (nd2 s0.data.toList [] [] (-1)) ∧ Below w.heap.size w w' := by
  obtain ⟨R, hR⟩ : ∃ R, nd2 s0.data.toList [] [] (-1) = R := ⟨_, rfl⟩
  rw [hR]
  obtain ⟨n0, hn0⟩ : ∃ n, s0.size = n := ⟨_, rfl⟩
  rw [hn0] at hs
  have HN0 : Hid (nd2 s0.data.toList [] [] (-1) = R ∧ s0.size = n0) := ⟨hR, hn0⟩
  clear hR hn0
  go_enter Tryd.func20, Tryd.ntmps20
  go_wp2
  go_loopw [0, 3, 4] (fun x v a wr => ∃ (s : ByteArray) (L : List Nd) (k : Int), x = .string s ∧ a = .int .i64 k ∧ Hid (NdO w.heap.size wr v L) ∧ Hid (Below w.heap.size w wr) ∧ Hid (nd2 s.data.toList [] L k = R) ∧ Hid (UpI L k ∧ L.length + s.size ≤ n0)) (fun x _ _ _ => (match x with | .string s => s.size | _ => 0))
  case atStart => exact ⟨s0, [], -1, rfl, rfl, World.ownsRow_nil _ _ _ _, Below.refl _ _, HN0.out.1, ⟨⟨⟨by omega, by simp⟩, fun i hi => by simp at hi⟩, by have := HN0.out.2; simp; omega⟩⟩
  case round =>
    obtain ⟨s, L, k, rfl, rfl, HO, HB, HR, HU⟩ := hrel
    obtain ⟨sa, sc, hsv⟩ := ownsRow_shape HO.out
    subst hsv
    by_cases h0 : s.size = 0
    · obtain rfl : s = ⟨#[]⟩ := str_nilR s h0
      have HR2 : Hid (L = R) := by have h := HR.out; have e : ((⟨#[]⟩ : ByteArray).data.toList) = [] := rfl; rw [e, nd2, rw_nil] at h; exact h
      go_wp2
      go_ret
      exact ⟨_, rfl, by rw [← HR2.out]; exact HO.out, HB.out⟩
    · have hem : s.toList.isEmpty = false := str_neR s (by omega)
      have hsz : s.size ≤ 400 := by have := HU.out.2; omega
      have IA := anyIdx s (by omega)
      have HG := hg.out
      rcases ia_split s.data.toList with ⟨hi1, hi2⟩ | ⟨q, d, hq, hd, hD, hi1, hi2⟩
      · rw [hi1] at IA
        have HR2 : Hid (rwM L k s.data.toList = R) := by unfold Hid; rw [← nd2_none hi2]; exact HR.out
        clear hi1 hi2
        go_wp2_with fail
        refine (IA _).mono ?_
        rintro e w1 ⟨rfl, B1⟩
        have HO1 : Hid (NdO w.heap.size w1 (.slice sa L.length sc) L) := own_keep HO.out (fun q hq => B1.block q (HO.out.lt q hq).2)
        have HB1 : Hid (Below w.heap.size w w1) := bel_step HB.out B1
        have RWC := implReadWord w.heap.size (.slice sa L.length sc) L k s w1 HO1.out HB1.out.size (hT.out.below HB1.out (Nat.le_refl _)) (hE.out.below HB1.out HG.2.1 HG.2.2) HU.out.1.1.1 HU.out.1.1.2 (by have := HU.out.2; omega) (by omega)
        clear IA B1 HO HB
        go_wp2_with fail
        refine RWC.mono ?_
        rintro e w2 ⟨v', rfl, hO2, hb2⟩
        have HO2 : Hid (NdO w.heap.size w2 v' R) := by unfold Hid; rw [← HR2.out]; exact hO2
        have HB2 : Hid (Below w.heap.size w w2) := HB1.out.trans hb2
        clear RWC hO2 hb2
        go_wp2
        go_ret
        exact ⟨_, rfl, HO2.out, HB2.out⟩
      · have hql : q < s.size := by simpa using hq
        have fq : Hid (wrap64 ((q : Int) + 1) = (q : Int) + 1 ∧ (q : Int) + 1 ≤ (s.size : Int) ∧ (0 : Int) ≤ (q : Int) + 1 ∧ (s.extract (q + 1) s.size).size < s.size ∧ (0 : Int) ≤ (q : Int) ∧ (q : Int) ≤ (s.size : Int)) := q_facts hql hsz
        rw [hi1] at IA
        have HR2 : Hid (nd2 (s.data.toList.drop (q + 1)) [] (rwM L k (s.data.toList.take q)) (nxA d (rwM L k (s.data.toList.take q)) k) = R) := by unfold Hid; rw [← nd2_split hq hd hD hi2]; exact HR.out
        have hqn : ((q : Int) == -1) = false := by rw [beq_eq_false_iff_ne]; omega
        have e0 := get_bt s q hql
        have hbd : bt s q = (d.toNat : Int) := by
          rw [← e0]
          have h1 : s.data.toList[q]? = some (s[q]'hql) := Lib.data_getElem? s q hql
          rw [hd] at h1
          rw [Option.some.inj h1]
        rw [hbd] at e0
        clear hi1 hi2 hd hbd HR
        go_wp2_with fail
        refine (IA _).mono ?_
        rintro e w1 ⟨rfl, B1⟩
        have HO1 : Hid (NdO w.heap.size w1 (.slice sa L.length sc) L) := own_keep HO.out (fun q hq => B1.block q (HO.out.lt q hq).2)
        have HB1 : Hid (Below w.heap.size w w1) := bel_step HB.out B1
        have RWC := implReadWord w.heap.size (.slice sa L.length sc) L k (s.extract 0 q) w1 HO1.out HB1.out.size (hT.out.below HB1.out (Nat.le_refl _)) (hE.out.below HB1.out HG.2.1 HG.2.2) HU.out.1.1.1 HU.out.1.1.2 (by have := HU.out.2; omega) (by simp; omega)
        rw [ext_take] at RWC
        clear IA B1 HO HB
        have hq0 := fq.out.2.2.2.2.1
        have hq1 := fq.out.2.2.2.2.2
        go_wp2_with fail
        refine RWC.mono ?_
        rintro e w2 ⟨v', rfl, hO2, hb2⟩
        have HB2 : Hid (Below w.heap.size w w2) := HB1.out.trans hb2
        obtain ⟨h1, h2⟩ := upI_rw HU.out.1 (s.data.toList.take q)
        obtain ⟨L', hL'⟩ : ∃ L', rwM L k (s.data.toList.take q) = L' := ⟨_, rfl⟩
        rw [hL'] at hO2 h1 h2 HR2
        have HO2 : Hid (NdO w.heap.size w2 v' L') := hO2
        obtain ⟨a2, c2, e2⟩ := ownsRow_shape hO2
        subst e2
        have hnsz : (s.extract (q + 1) s.size).size = s.size - (q + 1) := by simp
        have HU2 : Hid (UpI L' (nxA d L' k) ∧ L'.length + (s.extract (q + 1) s.size).size ≤ n0) := ⟨upI_nx h1 d, by rw [hnsz]; have := HU.out.2; omega⟩
        have HR3 : Hid (nd2 (s.extract (q + 1) s.size).data.toList [] L' (nxA d L' k) = R) := by unfold Hid; rw [ext_drop]; exact HR2.out
        have hkl : k < (L'.length : Int) := h1.1.2
        have hl41 : L'.length ≤ 401 := Nat.le_trans h2 (Nat.succ_le_succ (Nat.le_trans (Nat.le_trans (Nat.le_add_right _ _) HU.out.2) hs))
        have hwq := fq.out.1
        have hq2 := fq.out.2.1
        have hqs := fq.out.2.2.1
        have hsm := fq.out.2.2.2.1
        clear RWC hO2 hb2 h1 h2 hL' HR2 HO1 HB1 HU hnsz
        rcases d_cases hD with rfl | rfl | rfl
        · have HN : Hid (nxA 60 L' k = (L'.length : Int) - 1) := by unfold Hid nxA; rw [if_pos rfl]
          have hwl := l_fact hl41
          have e1 : ((s[q]'hql).toNat : Int) = 60 := e0
          clear e0 hl41 hD fq
          go_wp2
          go_roundw
          case rel => exact ⟨_, L', _, rfl, (by rw [HN.out, hwl]), HO2.out, HB2.out, HR3.out, HU2.out⟩
          case measure => exact hsm
        · have HN : Hid (nxA 44 L' k = k) := by unfold Hid nxA; rw [if_neg (by decide), if_neg (fun h => absurd h.1 (by decide))]
          have e1 : ((s[q]'hql).toNat : Int) = 44 := e0
          clear e0 hl41 hD fq
          go_wp2
          go_roundw
          case rel => exact ⟨_, L', _, rfl, (by rw [HN.out]), HO2.out, HB2.out, HR3.out, HU2.out⟩
          case measure => exact hsm
        · have e1 : ((s[q]'hql).toNat : Int) = 62 := e0
          clear e0 hl41 hD fq
          by_cases hk0 : 0 ≤ k
          · obtain ⟨m, rfl⟩ := Int.eq_ofNat_of_zero_le hk0
            have hml : m < L'.length := by omega
            have HN : Hid (nxA 62 L' (m : Int) = upAt L' m) := by unfold Hid nxA; rw [if_neg (by decide), if_pos ⟨rfl, hk0⟩, Int.toNat_natCast]
            obtain ⟨g, c, hv, _⟩ := own_pos HO2.out (by omega)
            simp only [Value.slice.injEq, true_and] at hv
            obtain ⟨rfl, rfl⟩ := hv
            have c1 : w2.cell? ⟨g, m * 3 + 2, none⟩ = some (.int .i64 (upAt L' m)) := by
              have h := (nd_of_own rfl HO2.out m hml).2.2
              rw [Nat.zero_add] at h
              rw [h]
              unfold upAt
              rw [List.getD_eq_getElem?_getD, List.getElem?_eq_getElem hml]
              rfl
            go_wp2
            go_roundw
            case rel => exact ⟨_, L', _, rfl, (by rw [HN.out]), HO2.out, HB2.out, HR3.out, HU2.out⟩
            case measure => exact hsm
          · have HN : Hid (nxA 62 L' k = k) := by unfold Hid nxA; rw [if_neg (by decide), if_neg (fun h => hk0 h.2)]
            have hd0 : decide (0 ≤ k) = false := decide_eq_false hk0
            go_wp2
            go_roundw
            case rel => exact ⟨_, L', _, rfl, (by rw [HN.out]), HO2.out, HB2.out, HR3.out, HU2.out⟩
            case measure => exact hsm

end Go.Proofs.YtfepbjkfabmiiaaDoor
