/-
  The walk of the program's parts of a type.
-/
import Derived.Test.YtebendaiokchdaaDoorYPo
namespace Go.Proofs.YtebendaiokchdaaDoor
open Go.ChangeShapes Go.WideShapes Go.ChangeAt Go.RowKit

theorem endAt_kid {ks : List Nat} {q i : Nat} (h : i < ks.length) : endAt (ks ++ [q]) (q + 1) i = endAt ks q i := by
  unfold endAt
  rw [List.getD_eq_getElem?_getD, List.getD_eq_getElem?_getD]
  by_cases h2 : i + 1 < ks.length
  · rw [List.getElem?_append_left h2]
    rw [List.getElem?_eq_getElem h2]; rfl
  · have e1 : (ks ++ [q])[i + 1]? = some q := by rw [List.getElem?_append_right (by omega), show i + 1 - ks.length = 0 by omega]; rfl
    have e2 : ks[i + 1]? = none := List.getElem?_eq_none (by omega)
    rw [e1, e2]; rfl
theorem endAt_last {ks : List Nat} {c q : Nat} : endAt (ks ++ [c]) q ks.length = q := by
  unfold endAt
  rw [List.getD_eq_getElem?_getD, List.getElem?_eq_none (by simp)]; rfl
theorem endAt_same {ks : List Nat} {q q' i : Nat} (h : i + 1 < ks.length) : endAt ks q i = endAt ks q' i := by
  unfold endAt
  rw [List.getD_eq_getElem?_getD, List.getD_eq_getElem?_getD, List.getElem?_eq_getElem h]; rfl

/-- One more part. -/
theorem PI.kid {L : List Nd} {wr w5 : World} {B q g1 : Nat} {ks : List Nat} {v v' : Value} {S : List Value} (h : PI L wr B ks q v S)
    (hrow : w5.ownsRow B 23 1 v' (ks.length + 1) (S ++ [.slice (some ⟨g1, 0, none⟩) 1 1])) (hg1 : wr.heap.size ≤ g1) (hB : B ≤ g1)
    (hnew : w5.heap[g1]? = some (.cells #[.int .i64 (kdAt L q), .int .i64 (nAt L q), .int .i64 (-1)] 33 (0, 0)))
    (hkeep : ∀ g, g < wr.heap.size → some g ≠ v.ownBlock → w5.heap[g]? = wr.heap[g]?) : PI L w5 B (ks ++ [q]) (q + 1) v' (S ++ [.slice (some ⟨g1, 0, none⟩) 1 1]) := by
  have hS : S.length = ks.length := by have := h.row.1; omega
  refine ⟨by simpa using hrow, fun i hi s hs => ?_, fun i j s t hs ht hne => ?_⟩
  · rcases Nat.lt_or_ge i ks.length with h1 | h1
    · rw [List.getElem?_append_left (by omega)] at hs
      have := h.each i h1 s hs
      rw [List.getElem_append_left h1, endAt_kid h1]
      refine own_keep this fun g hg => ?_
      obtain ⟨cu, hcu, _⟩ := own_at this hg
      refine hkeep g (lt_of_block hcu) fun e => ?_
      obtain ⟨cu', hcu', _⟩ := own_at h.row e.symm
      exact apart_types hcu' hcu (by decide) rfl
    · have hi' : i = ks.length := by simp at hi; omega
      subst hi'
      rw [List.getElem?_append_right (by omega), hS, Nat.sub_self] at hs
      simp at hs
      subst hs
      have e1 : (ks ++ [q])[ks.length]'hi = q := by simp
      rw [e1, endAt_last, segL_one]
      refine ⟨rfl, Or.inr ⟨g1, 1, _, rfl, hB, hnew, by simp, by unfold maxLen; omega, rfl, rfl⟩⟩
  · have old : ∀ (i : Nat) (s : Value), S[i]? = some s → ∀ g, s.ownBlock = some g → g < wr.heap.size := fun i s hs g hg => by
      have hi : i < ks.length := by
        rcases Nat.lt_or_ge i S.length with h1 | h1
        · omega
        · rw [List.getElem?_eq_none h1] at hs; simp at hs
      obtain ⟨cu, hcu, _⟩ := own_at (h.each i hi s hs) hg
      exact lt_of_block hcu
    have new : ∀ (i : Nat) (s : Value), ¬ i < S.length → (S ++ [Value.slice (some ⟨g1, 0, none⟩) 1 1])[i]? = some s → i = S.length ∧ s.ownBlock = some g1 := fun i s hi hs => by
      rw [List.getElem?_append_right (by omega)] at hs
      have : i - S.length = 0 := by
        rcases Nat.eq_zero_or_pos (i - S.length) with h0 | h0
        · exact h0
        · rw [List.getElem?_eq_none (by simp; omega)] at hs; simp at hs
      rw [this] at hs
      simp at hs
      exact ⟨by omega, by rw [← hs]; rfl⟩
    by_cases h1 : i < S.length
    · rw [List.getElem?_append_left h1] at hs
      by_cases h2 : j < S.length
      · rw [List.getElem?_append_left h2] at ht
        exact h.apart i j s t hs ht hne
      · obtain ⟨_, e⟩ := new j t h2 ht
        rw [e]
        intro e2
        have := old i s hs g1 e2
        omega
    · obtain ⟨e0, e⟩ := new i s h1 hs
      by_cases h2 : j < S.length
      · rw [List.getElem?_append_left h2] at ht
        rw [e]
        intro e2
        have := old j t ht g1 e2.symm
        omega
      · obtain ⟨e1, _⟩ := new j t h2 ht
        omega

/-- The last part goes on. -/
theorem PI.more {L : List Nd} {wr w5 : World} {B q c : Nat} {ks : List Nat} {v s' : Value} {S : List Value} (h : PI L wr B (ks ++ [c]) q v S) (hcq : c < q) {s : Value} (hs : S[ks.length]? = some s)
    (hrow : w5.ownsRow B 23 1 v (ks.length + 1) (S.set ks.length s'))
    (hnew : w5.ownsRow B 33 3 s' ((segL L c q).length + 1) (ndv (segL L c q) ++ [.int .i64 (kdAt L q), .int .i64 (nAt L q), .int .i64 (upAt L q - (c : Int))]))
    (hloc : s'.ownBlock = s.ownBlock ∨ ∀ g, s'.ownBlock = some g → wr.heap.size ≤ g)
    (hkeep : ∀ g, g < wr.heap.size → some g ≠ s.ownBlock → some g ≠ v.ownBlock → w5.heap[g]? = wr.heap[g]?) : PI L w5 B (ks ++ [c]) (q + 1) v (S.set ks.length s') := by
  have hS : S.length = ks.length + 1 := by have := h.row.1; simp at this; omega
  refine ⟨by simpa using hrow, fun i hi t ht => ?_, fun i j t u ht hu hne => ?_⟩
  · by_cases hi2 : i = ks.length
    · subst hi2
      rw [List.getElem?_set_self (by omega)] at ht
      simp at ht
      subst ht
      have e1 : (ks ++ [c])[ks.length]'hi = c := by simp
      rw [e1, endAt_last, segL_succ hcq, ← ndv_app, List.length_append]
      exact hnew
    · rw [List.getElem?_set_ne (by omega)] at ht
      have hi3 : i + 1 < (ks ++ [c]).length := by simp at hi ⊢; omega
      have := h.each i hi t ht
      rw [endAt_same hi3 (q' := q)]
      refine own_keep this fun g hg => ?_
      obtain ⟨cu, hcu, _⟩ := own_at this hg
      refine hkeep g (lt_of_block hcu) (fun e => h.apart i ks.length t s ht hs hi2 (by rw [hg, e])) (fun e => ?_)
      obtain ⟨cu', hcu', _⟩ := own_at h.row e.symm
      exact apart_types hcu' hcu (by decide) rfl
  · have bnd : ∀ (i : Nat) (t : Value), S[i]? = some t → i < (ks ++ [c]).length := fun i t ht => by
      rcases Nat.lt_or_ge i S.length with h1 | h1
      · simp; omega
      · rw [List.getElem?_eq_none h1] at ht; simp at ht
    have old : ∀ (i : Nat) (t : Value), S[i]? = some t → i ≠ ks.length → t.ownBlock ≠ s'.ownBlock := fun i t ht hi e => by
      rcases hloc with e1 | e1
      · exact h.apart i ks.length t s ht hs hi (by rw [e, e1])
      · have hb := bnd i t ht
        have he := h.each i hb t ht
        cases hto : t.ownBlock with
        | none =>
          rcases he.2 with ⟨_, h0⟩ | ⟨g, cap, cur, h1, _⟩
          · unfold segL at h0; simp at h0
          · rw [h1] at hto; simp [Value.ownBlock] at hto
        | some g =>
          obtain ⟨cu, hcu, _⟩ := own_at he hto
          have := e1 g (by rw [← e]; exact hto)
          have := lt_of_block hcu
          omega
    by_cases h1 : i = ks.length
    · subst h1
      rw [List.getElem?_set_self (by omega)] at ht
      rw [List.getElem?_set_ne (by omega)] at hu
      simp at ht
      subst ht
      exact fun e => old j u hu (by omega) e.symm
    · rw [List.getElem?_set_ne (by omega)] at ht
      by_cases h2 : j = ks.length
      · subst h2
        rw [List.getElem?_set_self (by omega)] at hu
        simp at hu
        subst hu
        exact old i t ht h1
      · rw [List.getElem?_set_ne (by omega)] at hu
        exact h.apart i j t u ht hu hne

set_option maxRecDepth 100000 in
set_option maxHeartbeats 6400000 in
theorem implParts (L : List Nd) (hU : ups L) (p e : Nat) (he : isEnd L p e) (b off cap : Nat) (w : World) (hb : b < w.heap.size) (hL : Hid (ndAt w b off (segL L p e))) :
    Calls Tryd.prog 23 #[.slice (some ⟨b, off, none⟩) (segL L p e).length cap] w fun r w' => ∃ v, r = .returned v ∧ PartsAt L w.heap.size w'.heap.size w' p e v ∧ Below w.heap.size w w' := by
  obtain ⟨i0, hi, hz0, hz1, hz2⟩ := info_parts Tryd.infoNd
  obtain ⟨j0, hj, hy0, hy1, hy2⟩ := info_parts Tryd.infoRw
  have HU : Hid (ups L) := hU
  have HE : Hid (isEnd L p e) := he
  have hpe : p < e := he.1
  have hel : e ≤ 40 := Nat.le_trans he.2.1 hU.2.1
  have hlen := segL_len (L := L) hpe
  obtain ⟨n, hn⟩ : ∃ n, (segL L p e).length = n := ⟨_, rfl⟩
  have hn2 : p + n ≤ e := by omega
  have hn3 : e ≤ p + n := by omega
  have HL : Hid (∀ j, 0 < j → j < n → w.cell? ⟨b, off + j * 3, none⟩ = some (.int .i64 (kdAt L (p + j))) ∧ w.cell? ⟨b, off + j * 3 + 1, none⟩ = some (.int .i64 (nAt L (p + j))) ∧ w.cell? ⟨b, off + j * 3 + 2, none⟩ = some (.int .i64 (upAt L (p + j) - (p : Int)))) := fun j h0 h1 => by
    have := hL.out j (by omega)
    rw [segL_get j (by omega) h0] at this
    exact this
  rw [hn]
  clear hL hU he hlen hn
  go_enter Tryd.func23, Tryd.ntmps23
  go_wp2
  go_loopw [3, 4, 5] (fun v f i wr => ∃ (m : Nat) (fs : Int) (S : List Value), 1 ≤ m ∧ m ≤ n ∧ i = .int .i64 (m : Int) ∧ f = .int .i64 fs ∧ Hid (∀ (ks : List Nat) (c : Nat), kidsTo L p (p + m) = ks ++ [c] → fs = (c : Int) - (p : Int)) ∧ Hid (PI L wr w.heap.size (kidsTo L p (p + m)) (p + m) v S) ∧ Below w.heap.size w wr) (fun _ _ i _ => n - (intOf i).toNat)
  case atStart =>
    refine ⟨1, 0, [], by omega, by omega, rfl, rfl, fun ks c h => ?_, ?_, Below.refl _ _⟩
    · rw [kidsTo_start] at h; simp at h
    · rw [Hid, kidsTo_start]
      exact ⟨World.ownsRow_nil _ _ _ _, fun i h => by simp at h, fun i j s t h => by simp at h⟩
  case round =>
    obtain ⟨m, fs, S, hm1, hm2, rfl, rfl, hfs, hPI, hnx⟩ := hrel
    have hsz := hnx.size
    by_cases hlt : m < n
    · obtain ⟨c0, c1, c2⟩ := HL.out m (by omega) hlt
      have d0 : wr.cell? ⟨b, off + m * 3, none⟩ = some (.int .i64 (kdAt L (p + m))) := keepCell hnx hb c0
      have d1 : wr.cell? ⟨b, off + m * 3 + 1, none⟩ = some (.int .i64 (nAt L (p + m))) := keepCell hnx hb c1
      have d2 : wr.cell? ⟨b, off + m * 3 + 2, none⟩ = some (.int .i64 (upAt L (p + m) - (p : Int))) := keepCell hnx hb c2
      clear c0 c1 c2
      obtain ⟨q, hq⟩ : ∃ q, p + m = q := ⟨_, rfl⟩
      rw [hq] at d0 d1 d2 hfs hPI
      obtain ⟨x, hx⟩ : ∃ x, kdAt L q = x := ⟨_, rfl⟩
      obtain ⟨y, hy⟩ : ∃ y, nAt L q = y := ⟨_, rfl⟩
      rw [hx] at d0
      rw [hy] at d1
      have hqe : q < e := by omega
      obtain ⟨v3a, v3c, rfl⟩ := ownsRow_shape hPI.out.row
      by_cases hu : upAt L q = (p : Int)
      · have hu0 : upAt L q - (p : Int) = 0 := by omega
        rw [hu0] at d2
        have HK : Hid (kidsTo L p (q + 1) = kidsTo L p q ++ [q]) := kidsTo_yes L p q (by omega) hu
        obtain ⟨K, hK⟩ : ∃ K, kidsTo L p q = K := ⟨_, rfl⟩
        have hKl : K.length ≤ 40 := by rw [← hK]; exact Nat.le_trans (kidsTo_len L p q) (by omega)
        rw [hK] at hPI HK
        have hrow := hPI.out.row
        rw [hK]
        go_wp2_with (at_builtin; refine wpList_append_own _ rfl _ _ 61 rfl w.heap.size 23 j0 (.slice none 0 0) 1 24 Tryd.underlying61 hj hy0 hy1 hy2 rfl (by decide) _ _ _ rfl (((hrow.alloc _).alloc _).alloc _) ⟨wr.heap.size + 1 + 1, 0, none⟩ 1 1 [.slice (some ⟨wr.heap.size + 1, 0, none⟩) 1 1] rfl rfl (one_new _ _ _ _ (by simp)) (by intro u hu; simp at hu; subst hu; rfl) (by unfold maxLen; omega) (by omega) (by simp; omega) ?_)
        intro v' w5 hown5 hgrow5 _
        have hbl : ∀ k, (Value.slice v3a K.length v3c).ownBlock = some k → w.heap.size ≤ k ∧ k < wr.heap.size := fun k hk => by
          obtain ⟨cu, hcu, h2⟩ := own_at hrow hk
          exact ⟨h2, lt_of_block hcu⟩
        have hb5 : Below w.heap.size w w5 := ((((hnx.alloc hsz _).alloc (by simp; omega) _).alloc (by simp; omega) _)).grown hgrow5 (by simp; omega) (fun k hk => (hbl k hk).1)
        have hnew : w5.heap[wr.heap.size + 1]? = some (.cells #[.int .i64 (kdAt L q), .int .i64 (nAt L q), .int .i64 (-1)] 33 (0, 0)) := by
          rw [hgrow5.block _ (by simp) (fun h => by have := (hbl _ h.symm).2; omega)]
          rw [hx, hy]
          refine (Below.heap_alloc _ _ _ (by simp)).trans ?_
          have e1 := heap_alloc_new (wr.alloc (.cells #[.int .i64 x, .int .i64 y, .int .i64 0] 33)) (.cells #[.int .i64 x, .int .i64 y, .int .i64 (-1)] 33)
          rw [show (wr.alloc (.cells #[.int .i64 x, .int .i64 y, .int .i64 0] 33)).heap.size = wr.heap.size + 1 by simp] at e1
          exact e1
        have HP5 : Hid (PI L w5 w.heap.size (K ++ [q]) (q + 1) v' (S ++ [.slice (some ⟨wr.heap.size + 1, 0, none⟩) 1 1])) := hPI.out.kid hown5 (by omega) (by omega) hnew (fun g hg hne => by
          rw [hgrow5.block g (by simp; omega) hne]
          exact (Below.heap_alloc _ _ _ (by simp; omega)).trans ((Below.heap_alloc _ _ _ (by simp; omega)).trans (Below.heap_alloc _ _ _ hg)))
        clear hgrow5 hown5 hnew hrow hbl d0 d1 d2 hPI hfs
        go_wp2
        go_roundw
        case rel =>
          refine ⟨m + 1, (m : Int), S ++ [.slice (some ⟨wr.heap.size + 1, 0, none⟩) 1 1], by omega, by omega, by go_num, rfl, ?_, ?_, hb5⟩
          · rw [show p + (m + 1) = q + 1 by omega, HK.out]
            intro ks c h
            have := List.append_inj' h rfl
            have : q = c := by simpa using this.2
            omega
          · rw [show p + (m + 1) = q + 1 by omega, HK.out]
            exact HP5
        case measure => simp [intOf]; omega
      · obtain ⟨ks, c, hK, hpc, hcq, hcu⟩ := last_part HU.out HE.out (show p + 1 ≤ q by omega) hqe hu
        have hul : 0 ≤ upAt L q ∧ upAt L q < (q : Int) := by
          obtain ⟨s, hs⟩ := ups_at HU.out (show q < L.length by have := HE.out.2.1; omega)
          exact up_lt hs (by omega)
        have hfe := hfs.out ks c hK
        subst hfe
        have HK : Hid (kidsTo L p (q + 1) = ks ++ [c]) := (kidsTo_no L p q hu).trans hK
        have hKl : (ks ++ [c]).length ≤ 40 := by rw [← hK]; exact Nat.le_trans (kidsTo_len L p q) (by omega)
        rw [hK] at hPI
        rw [hK]
        simp only [List.length_append, List.length_cons, List.length_nil, Nat.zero_add] at hKl ⊢
        have hrow : wr.ownsRow w.heap.size 23 1 (.slice v3a (ks.length + 1) v3c) (ks.length + 1) S := by
          have := hPI.out.row
          simpa [hK] using this
        have hSl : S.length = ks.length + 1 := by have := hrow.1; omega
        obtain ⟨g, gc, e1, hgc⟩ := own_pos hrow (by omega)
        simp at e1
        obtain ⟨rfl, rfl⟩ := e1
        obtain ⟨ar, har, hgb⟩ := own_at hrow (g := g) rfl
        obtain ⟨s, hs⟩ : ∃ s, S[ks.length]? = some s := ⟨S[ks.length]'(by omega), List.getElem?_eq_getElem (by omega)⟩
        have hse := hPI.out.each ks.length (by simp) s hs
        have e2 : (ks ++ [c])[ks.length]'(by simp) = c := by simp
        rw [e2, endAt_last] at hse
        have hsl : (segL L c q).length = q - c := segL_len hcq
        obtain ⟨sl, hsl2⟩ : ∃ sl, (segL L c q).length = sl := ⟨_, rfl⟩
        have HSL : Hid ((segL L c q).length = sl) := hsl2
        rw [hsl2] at hse
        have hslb : 1 ≤ sl ∧ sl ≤ 40 := by omega
        clear hsl hsl2
        obtain ⟨gs, gcs, rfl, hgcs⟩ := own_pos hse (by omega)
        have hcs : wr.cell? ⟨g, ks.length, none⟩ = some (.slice (some ⟨gs, 0, none⟩) sl gcs) := (hrow.cellAt ks.length (by omega)).trans hs
        obtain ⟨z, hz⟩ : ∃ z, upAt L q - (p : Int) = z := ⟨_, rfl⟩
        obtain ⟨fz, hfz⟩ : ∃ fz, (c : Int) - (p : Int) = fz := ⟨_, rfl⟩
        obtain ⟨uz, huz⟩ : ∃ uz, upAt L q - (c : Int) = uz := ⟨_, rfl⟩
        have hzz : z - fz = uz := by omega
        have hzb : 1 ≤ z ∧ z ≤ 40 ∧ 1 ≤ fz ∧ fz ≤ 40 ∧ 0 ≤ uz ∧ uz ≤ 40 := by omega
        have hz0' : (z == 0) = false := by simp; omega
        rw [hz] at d2
        rw [hfz]
        have hw1 : wrap64 (z - fz) = uz := by rw [hzz]; unfold wrap64; omega
        clear hul hcu hfs hu
        go_wp2_with fail
        obtain ⟨W1, hW1⟩ : ∃ W1, wr.alloc (.cells #[.int .i64 x, .int .i64 y, .int .i64 uz] 33) = W1 := ⟨_, rfl⟩
        rw [hW1]
        have w1s : W1.heap.size = wr.heap.size + 1 := by rw [← hW1]; simp
        have w1o : ∀ k, k < wr.heap.size → W1.heap[k]? = wr.heap[k]? := fun k hk => by rw [← hW1]; exact Below.heap_alloc _ _ _ hk
        have w1n : W1.heap[wr.heap.size]? = some (.cells #[.int .i64 x, .int .i64 y, .int .i64 uz] 33 (0, 0)) := by rw [← hW1]; exact heap_alloc_new _ _
        have w1b : Below w.heap.size w W1 := by rw [← hW1]; exact hnx.alloc hsz _
        clear hW1
        have hgl := lt_of_block har
        have har1 : W1.drew.heap[g]? = some (.cells ar 23 (0, 0)) := (w1o g hgl).trans har
        have hari : ar[ks.length]? = some (.slice (some ⟨gs, 0, none⟩) sl gcs) := (cell_of_block har ks.length).symm.trans hcs
        have x0 : W1.drew.cell? ⟨wr.heap.size, 0, none⟩ = some (.int .i64 x) := (cell_of_block (w := W1.drew) w1n 0).trans rfl
        have x1 : W1.drew.cell? ⟨wr.heap.size, 1, none⟩ = some (.int .i64 y) := (cell_of_block (w := W1.drew) w1n 1).trans rfl
        have x2 : W1.drew.cell? ⟨wr.heap.size, 2, none⟩ = some (.int .i64 uz) := (cell_of_block (w := W1.drew) w1n 2).trans rfl
        refine wa_begin (by kernel_rfl) ?_
        refine wa_take 0 (some 39) (.slice (some ⟨g, 0, none⟩) (ks.length + 1) v3c) rfl rfl (by kernel_rfl) (by kernel_rfl) (by kernel_rfl) (fun _ _ _ h => h) (by rfl) (fun w' => by first | rfl | (go_simp; done) | (go_simp; omega)) ?_
        simp only [Act.put, List.setIfInBounds_toArray, List.set_cons_zero, List.set_cons_succ]
        refine wa_take 1 (some 40) (.int .i64 (ks.length : Int)) rfl rfl (by kernel_rfl) (by kernel_rfl) (by kernel_rfl) (fun _ _ _ h => h) (by rfl) (fun w' => by first | rfl | (go_simp; done) | (go_simp; omega)) ?_
        simp only [Act.put, List.setIfInBounds_toArray, List.set_cons_zero, List.set_cons_succ]
        refine wa_take 2 (some 41) (.slice (some ⟨g, 0, none⟩) (ks.length + 1) v3c) rfl rfl (by kernel_rfl) (by kernel_rfl) (by kernel_rfl) (fun _ _ _ h => h) (by rfl) (fun w' => by first | rfl | (go_simp; done) | (go_simp; omega)) ?_
        simp only [Act.put, List.setIfInBounds_toArray, List.set_cons_zero, List.set_cons_succ]
        refine wa_take 3 (some 42) (.int .i64 (ks.length : Int)) rfl rfl (by kernel_rfl) (by kernel_rfl) (by kernel_rfl) (fun _ _ _ h => h) (by rfl) (fun w' => by first | rfl | (go_simp; done) | (go_simp; omega)) ?_
        simp only [Act.put, List.setIfInBounds_toArray, List.set_cons_zero, List.set_cons_succ]
        refine wa_take 4 (some 43) (.pointer (some ⟨g, ks.length, none⟩)) rfl rfl (by kernel_rfl) (by kernel_rfl) (by kernel_rfl) (fun _ _ _ h => h) (by rfl) (fun w' => by first | rfl | (go_simp; done) | (go_simp; omega)) ?_
        simp only [Act.put, List.setIfInBounds_toArray, List.set_cons_zero, List.set_cons_succ]
        refine wa_first 5 (some 44) (.slice (some ⟨gs, 0, none⟩) sl gcs) (fun w' => w'.heap[g]? = some (.cells ar 23 (0, 0))) rfl rfl (by kernel_rfl) (by kernel_rfl) (by kernel_rfl) (fun _ _ _ h => h) (by rfl) (fun w' hS => by have q := (cell_of_block hS ks.length).trans hari; first | rfl | (go_simp; done)) har1 ?_
        simp only [Act.put, List.setIfInBounds_toArray, List.set_cons_zero, List.set_cons_succ]
        refine wb_val 6 (some 45) (.agg #[.int .i64 x, .int .i64 y, .int .i64 uz]) W1.drew (by kernel_rfl) (by kernel_rfl) rfl rfl (by rfl) (by first | rfl | (go_simp; done)) har1 ?_
        simp only [Act.put, List.setIfInBounds_toArray, List.set_cons_zero, List.set_cons_succ]
        have har2 : (W1.drew.alloc (.cells #[.int .i64 x, .int .i64 y, .int .i64 uz] 33)).heap[g]? = some (.cells ar 23 (0, 0)) := (Below.heap_alloc _ _ _ (lt_of_block har1)).trans har1
        refine wb_val 7 (some 46) (.slice (some ⟨W1.heap.size, 0, none⟩) 1 1) (W1.drew.alloc (.cells #[.int .i64 x, .int .i64 y, .int .i64 uz] 33)) (by kernel_rfl) (by kernel_rfl) rfl rfl (by rfl) (by first | rfl | go_simp) har2 ?_
        simp only [Act.put, List.setIfInBounds_toArray, List.set_cons_zero, List.set_cons_succ]
        obtain ⟨cu, hcu, hgsb⟩ := own_at hse (g := gs) rfl
        have hgsl := lt_of_block hcu
        have hse2 : (W1.drew.alloc (.cells #[.int .i64 x, .int .i64 y, .int .i64 uz] 33)).ownsRow w.heap.size 33 3 (.slice (some ⟨gs, 0, none⟩) sl gcs) sl (ndv (segL L c q)) := (own_keep (w' := W1.drew) hse fun k hk => by
          obtain ⟨cu', hcu', _⟩ := own_at hse hk
          exact w1o k (lt_of_block hcu')).alloc _
        obtain ⟨v', w5, hrun, hown5, hgrow5, _, hloc⟩ := run_append_own_at (P := Tryd.prog) (W1.drew.alloc (.cells #[.int .i64 x, .int .i64 y, .int .i64 uz] 33)) w.heap.size 23 23 33 i0 (.agg #[.int .i64 0, .int .i64 0, .int .i64 0]) 3 24 Tryd.underlying23 hi hz0 hz1 hz2 rfl (by decide) _ _ _ hse2 ⟨W1.heap.size, 0, none⟩ 1 1 [.int .i64 x, .int .i64 y, .int .i64 uz] rfl (by exact tri_new W1.drew _ _ _ _) (by intro u hu; simp at hu; rcases hu with rfl | rfl | rfl <;> rfl) (by unfold maxLen; omega) (by omega) (by have : W1.drew.heap.size = W1.heap.size := rfl; simp; omega)
        obtain ⟨va, vc, rfl⟩ := ownsRow_shape hown5
        refine wb_leave_val 8 (some 47) (.slice va (sl + 1) vc) w5 (by kernel_rfl) (by kernel_rfl) rfl rfl (by rfl) (by simp [execOp, resolve, invoke, builtin, Act.eval, hrun, Result.andThen]) ?_
        simp only [Act.put, List.setIfInBounds_toArray, List.set_cons_zero, List.set_cons_succ]
        have KEEP : ∀ k, k < wr.heap.size → some k ≠ (Value.slice (some ⟨gs, 0, none⟩) sl gcs).ownBlock → w5.heap[k]? = wr.heap[k]? := fun k hk hne => by
          have e0 : W1.drew.heap.size = W1.heap.size := rfl
          rw [hgrow5.block k (by simp; omega) hne]
          exact (Below.heap_alloc _ _ _ (by omega)).trans (w1o k hk)
        have hggs : some g ≠ (Value.slice (some ⟨gs, 0, none⟩) sl gcs).ownBlock := by
          intro e3
          simp [Value.ownBlock] at e3
          subst e3
          exact apart_types har hcu (by decide) rfl
        have har5 : w5.heap[g]? = some (.cells ar 23 (0, 0)) := (KEEP g hgl hggs).trans har
        have y0 : w5.cell? ⟨g, ks.length, none⟩ = some (.slice (some ⟨gs, 0, none⟩) sl gcs) := (cell_of_block har5 ks.length).trans hari
        have yf := free_of_block har5 ks.length
        refine wa_val 9 (some 48) (.pointer (some ⟨g, ks.length, none⟩)) w5 (by kernel_rfl) rfl rfl (by rfl) (by first | rfl | (go_simp; done) | (go_simp; omega)) ?_
        simp only [Act.put, List.setIfInBounds_toArray, List.set_cons_zero, List.set_cons_succ]
        refine wa_store 10 none (w5.setCell ⟨g, ks.length, none⟩ (.slice va (sl + 1) vc)) (by kernel_rfl) rfl rfl (by rfl) (by first | rfl | (go_simp; done)) ?_
        simp only [Act.put]
        refine wa_done (by kernel_rfl) ?_
        have e0 : W1.drew.heap.size = W1.heap.size := rfl
        have hvg : ∀ k, (Value.slice va (sl + 1) vc).ownBlock = some k → k ≠ g ∧ (k = gs ∨ wr.heap.size ≤ k) := fun k hk => by
          rcases hloc with h | h
          · rw [hk] at h
            simp [Value.ownBlock] at h
            refine ⟨fun e => ?_, Or.inl h⟩
            subst e
            exact hggs (by simp [Value.ownBlock, h])
          · rw [hk] at h
            simp at h
            exact ⟨by omega, Or.inr (by omega)⟩
        have hrow9 : (w5.setCell ⟨g, ks.length, none⟩ (.slice va (sl + 1) vc)).ownsRow w.heap.size 23 1 (.slice (some ⟨g, 0, none⟩) (ks.length + 1) v3c) (ks.length + 1) (S.set ks.length (.slice va (sl + 1) vc)) :=
          own_set (own_keep hrow fun k hk => by
            simp [Value.ownBlock] at hk
            subst hk
            exact KEEP g hgl hggs) ks.length _
        have hnew9 : (w5.setCell ⟨g, ks.length, none⟩ (.slice va (sl + 1) vc)).ownsRow w.heap.size 33 3 (.slice va (sl + 1) vc) ((segL L c q).length + 1) (ndv (segL L c q) ++ [.int .i64 (kdAt L q), .int .i64 (nAt L q), .int .i64 (upAt L q - (c : Int))]) := by
          rw [HSL.out, hx, hy, huz]
          exact own_keep hown5 fun k hk => heap_setCell_other _ _ _ _ (by simpa using (hvg k hk).1)
        have HP9 : Hid (PI L (w5.setCell ⟨g, ks.length, none⟩ (.slice va (sl + 1) vc)) w.heap.size (ks ++ [c]) (q + 1) (.slice (some ⟨g, 0, none⟩) (ks.length + 1) v3c) (S.set ks.length (.slice va (sl + 1) vc))) := by
          refine PI.more (s := .slice (some ⟨gs, 0, none⟩) sl gcs) (by simpa [hK] using hPI.out) hcq hs hrow9 hnew9 ?_ ?_
          · rcases hloc with h | h
            · exact Or.inl h
            · right
              intro k hk
              rw [hk] at h
              simp at h
              omega
          · intro k hk h1 h2
            refine (heap_setCell_other _ _ _ _ ?_).trans (KEEP k hk h1)
            intro e
            simp at e
            exact h2 (by rw [e]; rfl)
        have hb9 : Below w.heap.size w (w5.setCell ⟨g, ks.length, none⟩ (.slice va (sl + 1) vc)) := ((w1b.drew.alloc (by omega) _).grown hgrow5 (by simp; omega) (fun k hk => by simp [Value.ownBlock] at hk; omega)).setCell (by simpa using hgb) _
        clear hrow9 hnew9 hvg KEEP hgrow5 hown5 hrun hloc hse hse2 hrow hPI har har1 har2 har5 hcu y0 yf x0 x1 x2 w1o w1n w1b d0 d1 d2 hcs hs
        go_wp2
        go_roundw
        case rel =>
          refine ⟨m + 1, fz, S.set ks.length (.slice va (sl + 1) vc), by omega, by omega, by go_num, rfl, ?_, ?_, hb9⟩
          · rw [show p + (m + 1) = q + 1 by omega, HK.out]
            intro ks' c' h
            have := List.append_inj' h rfl
            have : c = c' := by simpa using this.2
            omega
          · rw [show p + (m + 1) = q + 1 by omega, HK.out]
            exact HP9
        case measure => simp [intOf]; omega
    · obtain rfl : m = n := by omega
      rw [show p + m = e by omega, kidsTo_all HU.out HE.out] at hPI
      have HD : Hid (PartsAt L w.heap.size wr.heap.size wr p e _) := hPI.out.done (fun i hi => (parts_end HU.out HE.out i hi).1)
      obtain ⟨v3a, v3c, rfl⟩ := ownsRow_shape hPI.out.row
      go_wp2
      go_ret
      exact ⟨_, rfl, HD.out, hnx⟩

end Go.Proofs.YtebendaiokchdaaDoor
