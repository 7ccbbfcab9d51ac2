/-
  Texts of types: the walk of the specification.
-/
import Derived.Test.YtebendaiokchdaaDoorYTx2
import Derived.Test.YtebendaiokchdaaDoorYCs
namespace Go.Proofs.YtebendaiokchdaaDoor
open Go.ChangeShapes Go.WideShapes Go.ChangeAt Go.RowKit

def TextS (L : List Nd) (f k : Nat) : Prop := ∀ (w : World) (lo hi : Nat) (sl : Value), TrRep L lo hi f w k sl → hi ≤ w.heap.size →
  Calls Tryd.prog 14 #[.agg #[.int .i64 (kdAt L k), .int .i64 (nAt L k), sl]] w fun e w' => e = .returned (.string (bsY (txt L f k))) ∧ Below w.heap.size w w'

theorem sum_take_le (g : Nat → Nat) (K : List Nat) (m : Nat) : ((K.take m).map g).sum ≤ (K.map g).sum := by
  conv => rhs; rw [← List.take_append_drop m K, List.map_append, List.sum_append]
  omega
theorem sum_mem_le (g : Nat → Nat) : ∀ (K : List Nat) (c : Nat), c ∈ K → g c ≤ (K.map g).sum
  | [], _, h => by simp at h
  | a :: r, c, h => by
    rcases List.mem_cons.1 h with rfl | h
    · simp
    · have := sum_mem_le g r c h
      simp
      omega
theorem kids_sum {L : List Nd} (hG : goodT L = true) (f : Nat) {p e : Nat} (he : isEnd L p e) : ((kidsOf L p).map (fun c => (txt L f c).length + 1)).sum ≤ 800 := by
  have hU := ups_good hG
  cases hK : kidsOf L p with
  | nil => simp
  | cons c r =>
    have := sum_segC 20 (fun c => (txt L f c).length + 1) (kidsOf L p) e (fun i h => ⟨(parts_end hU he i h).1, txt_len hG f _ _ (parts_end hU he i h)⟩) c r hK
    rw [hK] at this
    have h1 := he.2.1
    have h2 := hU.2.1
    omega
theorem join_take_len (g : Nat → List UInt8) (K : List Nat) (m : Nat) : (Lib.join ((K.take m).map g) [44]).length ≤ (K.map (fun c => (g c).length + 1)).sum := by
  have h1 := join_len ((K.take m).map g) 44
  rw [List.map_map] at h1
  have e2 : ((fun x => x.length + 1) ∘ g) = (fun c => (g c).length + 1) := rfl
  rw [e2] at h1
  exact Nat.le_trans h1 (sum_take_le _ K m)
theorem join_take_succ (g : Nat → List UInt8) {K : List Nat} {m : Nat} (h : m < K.length) : Lib.join ((K.take (m + 1)).map g) [44] = if m = 0 then g K[m] else Lib.join ((K.take m).map g) [44] ++ [44] ++ g K[m] := by
  rw [List.take_succ_eq_append_getElem h, List.map_append]
  by_cases h0 : m = 0
  · subst h0
    simp [Lib.join_one]
  · rw [if_neg h0]
    exact join_snoc _ _ _ (by
      intro e
      rw [List.map_eq_nil_iff, List.take_eq_nil_iff] at e
      rcases e with e | e
      · omega
      · rw [e] at h; simp at h)

set_option maxRecDepth 100000 in
set_option maxHeartbeats 6400000 in
theorem specText_step (L : List Nd) (hG : goodT L = true) (f k e : Nat) (hke : isEnd L k e) (hkf : L.length - k ≤ f + 1) (ih : ∀ c, c < L.length → L.length - c ≤ f → TextS L f c) : TextS L (f + 1) k := by
  intro w lo hi sl htr hhi
  have hU := ups_good hG
  have hkl : k < L.length := by have h1 := hke.1; have h2 := hke.2.1; omega
  obtain ⟨⟨k1, k2⟩, k3, _⟩ := node_n hG hkl
  have htr0 := htr
  obtain ⟨sa0, sc0, rfl, _⟩ := htr
  have hKL : (kidsOf L k).length ≤ 40 := Nat.le_trans (kids_le L k) hU.2.1
  have hsum := kids_sum hG f hke
  have HJL : Hid (∀ m, (Lib.join (((kidsOf L k).take m).map (txt L f)) [44]).length ≤ 800) := fun m => Nat.le_trans (join_take_len _ _ m) hsum
  have HTL : Hid (∀ c ∈ kidsOf L k, (txt L f c).length ≤ 800) := fun c hc => by
    have h1 : (txt L f c).length + 1 ≤ _ := sum_mem_le (fun c => (txt L f c).length + 1) _ c hc
    omega
  obtain ⟨xn, hxn⟩ : ∃ xn : Nat, kdAt L k = (xn : Int) := ⟨(kdAt L k).toNat, by omega⟩
  have hx22 : xn < krow.length := by have : krow.length = 22 := rfl
                                     omega
  have hnm := nm_get xn hx22
  have hnl := nm_len (kdAt L k) (by omega) k2
  have hF : txt L (f + 1) k = nm (kdAt L k) ++ (if 0 < (kidsOf L k).length then [60] ++ Lib.join ((kidsOf L k).map (txt L f)) [44] ++ [62] else if withN (kdAt L k) then [60] ++ Lib.decDigits (nAt L k).toNat ++ [62] else []) := rfl
  rw [hF]
  clear hF
  rw [hxn] at hnl k1 k2 k3 ⊢
  obtain ⟨NM, hNM⟩ : ∃ NM, nm (xn : Int) = NM := ⟨_, rfl⟩
  rw [hNM] at hnm hnl ⊢
  obtain ⟨NB, hNB⟩ : ∃ NB, bsY NM = NB := ⟨_, rfl⟩
  have hnb : NB.size ≤ 7 := by rw [← hNB, bsY_size]; exact hnl
  have HNames : Hid (∀ W : World, Calls Tryd.prog 29 #[] W fun e w' => e = .returned (.slice (some ⟨W.heap.size, 0, none⟩) 22 22) ∧ w'.cell? ⟨W.heap.size, xn, none⟩ = some (.string NB) ∧ Below W.heap.size W w') := fun W => by
    refine (specNames W).mono ?_
    rintro e w' ⟨rfl, h1, h2⟩
    refine ⟨rfl, ?_, h2⟩
    rw [h1 xn hx22, ← hnm, hNB]
  have hxi : (xn : Int) < 22 := by omega
  obtain ⟨y, hye⟩ : ∃ y, nAt L k = y := ⟨_, rfl⟩
  rw [hye] at k3 ⊢
  have HNB : Hid (bsY NM = NB) := hNB
  clear hNB hnm hNM hnl hsum
  obtain ⟨K, hK⟩ : ∃ K, kidsOf L k = K := ⟨_, rfl⟩
  obtain ⟨R, hR⟩ : ∃ R, bsY (NM ++ (if 0 < (kidsOf L k).length then [60] ++ Lib.join ((kidsOf L k).map (txt L f)) [44] ++ [62] else if withN (xn : Int) then [60] ++ Lib.decDigits y.toNat ++ [62] else [])) = R := ⟨_, rfl⟩
  have HR : Hid (bsY (NM ++ (if 0 < (kidsOf L k).length then [60] ++ Lib.join ((kidsOf L k).map (txt L f)) [44] ++ [62] else if withN (xn : Int) then [60] ++ Lib.decDigits y.toNat ++ [62] else [])) = R) := hR
  rw [hR]
  clear hR
  have HEN : Hid (0 < (kidsOf L k).length → ∃ G cap, Value.slice sa0 (kidsOf L k).length sc0 = .slice (some ⟨G, 0, none⟩) (kidsOf L k).length cap ∧ lo ≤ G ∧ G < hi ∧ ∀ j (h : j < (kidsOf L k).length), EntAt L lo hi f w G j (some (kidsOf L k)[j])) := fun h0 => htr0.ents h0
  have HKP : Hid (∀ i (h : i < (kidsOf L k).length), TextS L f (kidsOf L k)[i]) := fun i h => by
    have hm := kids_mem (List.getElem_mem h)
    exact ih _ hm.2 (by omega)
  rw [hK] at HR HEN HJL HTL hKL k3 HKP
  rw [hK]
  clear hK ih htr0 hkf hye
  go_enter Tryd.func14, Tryd.ntmps14
  go_wp2_with fail
  obtain ⟨z, hz⟩ : ∃ z, w.heap.size = z := ⟨_, rfl⟩
  obtain ⟨W0, hW0⟩ : ∃ W0, w.alloc (.cells #[.int .i64 (xn : Int), .int .i64 y, .slice sa0 K.length sc0] 40) = W0 := ⟨_, rfl⟩
  have w0n : W0.heap[z]? = some (.cells #[.int .i64 (xn : Int), .int .i64 y, .slice sa0 K.length sc0] 40 (0, 0)) := by rw [← hW0, ← hz]; exact heap_alloc_new _ _
  have w0b : Below w.heap.size w W0 := by rw [← hW0]; exact (Below.refl _ _).alloc (Nat.le_refl _) _
  rw [hW0, hz]
  clear hW0
  refine wa_begin (by kernel_rfl) ?_
  refine wa_take 1 (some 7) (.pointer (some ⟨z, 0, none⟩)) rfl rfl (by kernel_rfl) (by kernel_rfl) (by kernel_rfl) (fun _ _ _ h => h) (by rfl) (fun w' => by first | rfl | (go_simp; done)) ?_
  simp only [Act.put, List.setIfInBounds_toArray, List.set_cons_zero, List.set_cons_succ]
  refine wa_first 2 (some 8) (.int .i64 (xn : Int)) (fun w' => w'.heap[z]? = some (.cells #[.int .i64 (xn : Int), .int .i64 y, .slice sa0 K.length sc0] 40 (0, 0))) rfl rfl (by kernel_rfl) (by kernel_rfl) (by kernel_rfl) (fun _ _ _ h => h) (by rfl) (fun w' hS => by have q := (cell_of_block hS 0).trans rfl; first | rfl | (go_simp; done)) w0n ?_
  simp only [Act.put, List.setIfInBounds_toArray, List.set_cons_zero, List.set_cons_succ]
  refine wb_call 0 (some 6) 29 #[] (by kernel_rfl) (by kernel_rfl) rfl rfl (by rfl) (by kernel_rfl) ?_
  refine (HNames.out _).mono ?_
  rintro e1 W2 ⟨rfl, hname, hb2⟩
  have w2n : W2.heap[z]? = some (.cells #[.int .i64 (xn : Int), .int .i64 y, .slice sa0 K.length sc0] 40 (0, 0)) := (hb2.block z (lt_of_block w0n)).trans w0n
  have w2b : Below w.heap.size w W2 := w0b.trans ⟨hb2.os, hb2.tape, hb2.output, hb2.size, fun k hk => hb2.block k (by have := w0b.size; exact Nat.lt_of_lt_of_le hk this)⟩
  refine ⟨_, rfl, w2n, ?_⟩
  simp only [Act.put, List.setIfInBounds_toArray, List.set_cons_zero, List.set_cons_succ]
  obtain ⟨gn, hgn⟩ : ∃ gn, W0.drew.heap.size = gn := ⟨_, rfl⟩
  rw [hgn] at hname ⊢
  clear hgn hb2 HNames
  refine wb_leave_val 3 (some 9) (.pointer (some ⟨gn, xn, none⟩)) W2 (by kernel_rfl) (by kernel_rfl) rfl rfl (by rfl) (by first | rfl | (go_simp; done) | (go_simp; omega)) ?_
  simp only [Act.put, List.setIfInBounds_toArray, List.set_cons_zero, List.set_cons_succ]
  refine wa_val 4 (some 10) (.string NB) W2 (by kernel_rfl) rfl rfl (by rfl) (by first | rfl | (go_simp; done)) ?_
  simp only [Act.put, List.setIfInBounds_toArray, List.set_cons_zero, List.set_cons_succ]
  refine wa_val 5 (some 3) (.string NB) W2 (by kernel_rfl) rfl rfl (by rfl) (by first | rfl | (go_simp; done)) ?_
  simp only [Act.put, List.setIfInBounds_toArray, List.set_cons_zero, List.set_cons_succ]
  refine wa_done (by kernel_rfl) ?_
  have q0 := (cell_of_block w2n 0).trans rfl
  have q1 := (cell_of_block w2n 1).trans rfl
  have q2 := (cell_of_block w2n 2).trans rfl
  clear hname w0n w0b
  by_cases hK0 : 0 < K.length
  · have hKi : (0 : Int) < (K.length : Int) := by omega
    obtain ⟨G, cap, eG, l1, l2, hE⟩ := HEN.out hK0
    simp at eG
    obtain ⟨rfl, rfl⟩ := eG
    have hGl : G < w.heap.size := by omega
    have HE : Hid (∀ j (h : j < K.length), EntAt L lo hi f w G j (some K[j])) := hE
    have HR2 : Hid (bsY (NM ++ ([60] ++ Lib.join (K.map (txt L f)) [44] ++ [62])) = R) := by have h := HR.out; rw [if_pos hK0] at h; exact h
    have HB0 : Hid (NB ++ ⟨#[60]⟩ = bsY (NM ++ [60])) := by unfold Hid; rw [← HNB.out]; exact bsY_app NM [60]
    have HNL : Hid (NM.length ≤ 7) := by have h := hnb; rw [← HNB.out, bsY_size] at h; exact h
    clear HEN HR hE k3
    go_wp2
    rw [HB0.out]
    go_loopw [3, 21] (fun s i wr => ∃ m : Nat, m ≤ K.length ∧ i = .int .i64 (m : Int) ∧ s = .string (bsY (NM ++ [60] ++ Lib.join ((K.take m).map (txt L f)) [44])) ∧ Below w.heap.size w wr) (fun _ i _ => K.length - (intOf i).toNat)
    case atStart => exact ⟨0, by omega, rfl, by simp [Lib.join], w2b⟩
    case round =>
      clear q0 q1 q2 w2n w2b
      obtain ⟨m, hm, rfl, rfl, hnx⟩ := hrel
      have hsz := hnx.size
      have hjl := HJL.out m
      have hss : (bsY (NM ++ [60] ++ Lib.join ((K.take m).map (txt L f)) [44])).size ≤ 1000 := by rw [bsY_size, List.length_append, List.length_append]; have := HNL.out; simp only [List.length_cons, List.length_nil]; omega
      by_cases hlt : m < K.length
      · obtain ⟨kx, ny, sa, sn, sc, d0, d1, d2, hent⟩ := ((HE.out m hlt).keep (hnx.block G hGl) (fun g _ hg => hnx.block g (by omega))).shape
        obtain ⟨c, e1, e2, e3, e4⟩ := hent.resolve_left (fun h => by have := h.1; simp at this)
        have e1' : K[m] = c := by simpa using e1
        have hTS := HKP.out m hlt
        have htl := HTL.out K[m] (List.getElem_mem hlt)
        have HSU := join_take_succ (txt L f) hlt
        rw [e1'] at hTS htl HSU
        have HCC := fun o => hTS (wr.alloc o) lo hi (.slice sa sn sc) (e4.below ((Below.refl wr.heap.size wr).alloc (Nat.le_refl _) o) (by omega)) (by simp; omega)
        rw [← e2, ← e3] at HCC
        have hbt : (bsY (txt L f c)).size ≤ 800 := by rw [bsY_size]; exact htl
        have HN1 : Hid (bsY (NM ++ [60] ++ Lib.join ((K.take (m + 1)).map (txt L f)) [44]) = if m = 0 then bsY (NM ++ [60] ++ Lib.join ((K.take m).map (txt L f)) [44]) ++ bsY (txt L f c) else bsY (NM ++ [60] ++ Lib.join ((K.take m).map (txt L f)) [44]) ++ ⟨#[44]⟩ ++ bsY (txt L f c)) := by
          unfold Hid
          rw [HSU]
          by_cases h0 : m = 0
          · subst h0
            rw [if_pos rfl, if_pos rfl, bsY_app]
            simp [Lib.join]
          · rw [if_neg h0, if_neg h0]
            have e44 : (⟨#[44]⟩ : ByteArray) = bsY [44] := rfl
            rw [e44, bsY_app, bsY_app]
            simp
        obtain ⟨TB, hTB⟩ : ∃ TB, bsY (txt L f c) = TB := ⟨_, rfl⟩
        rw [hTB] at hbt HN1 HCC
        obtain ⟨SB, hSB⟩ : ∃ SB, bsY (NM ++ [60] ++ Lib.join ((K.take m).map (txt L f)) [44]) = SB := ⟨_, rfl⟩
        rw [hSB] at hss HN1 ⊢
        have HC : Hid (∀ o, Calls Tryd.prog 14 #[.agg #[.int .i64 kx, .int .i64 ny, .slice sa sn sc]] (wr.alloc o) fun e w' => e = .returned (.string TB) ∧ Below (wr.alloc o).heap.size (wr.alloc o) w') := HCC
        have hwn := fun o => hnx.alloc hsz o
        clear HCC hTB hSB e1 e2 e3 e4 hent HSU hTS htl hjl e1'
        by_cases h0 : m = 0
        · subst h0
          have HN2 : Hid (bsY (NM ++ [60] ++ Lib.join ((K.take 1).map (txt L f)) [44]) = SB ++ TB) := by have h := HN1.out; rw [if_pos rfl] at h; exact h
          clear HN1
          go_wp2_with (go_at_call 14; refine (HC.out _).mono ?_; rintro e w2 ⟨rfl, hb2⟩; clear HC)
          go_roundw
          case rel => exact ⟨1, by omega, by go_num, by rw [HN2.out], below2 (hwn _) hb2⟩
          case measure => simp [intOf]; omega
        · have hm0 : (0 : Int) < (m : Int) := by omega
          have HN2 : Hid (bsY (NM ++ [60] ++ Lib.join ((K.take (m + 1)).map (txt L f)) [44]) = SB ++ ⟨#[44]⟩ ++ TB) := by have h := HN1.out; rw [if_neg h0] at h; exact h
          have hsc : (SB ++ ⟨#[44]⟩).size = SB.size + 1 := by rw [ByteArray.size_append]; rfl
          clear HN1
          go_wp2_with (go_at_call 14; refine (HC.out _).mono ?_; rintro e w2 ⟨rfl, hb2⟩; clear HC)
          go_roundw
          case rel => exact ⟨m + 1, by omega, by go_num, by rw [HN2.out], below2 (hwn _) hb2⟩
          case measure => simp [intOf]; omega
      · obtain rfl : m = K.length := by omega
        rw [List.take_length] at hss ⊢
        have HR3 : Hid (bsY (NM ++ [60] ++ Lib.join (K.map (txt L f)) [44]) ++ ⟨#[62]⟩ = R) := by
          unfold Hid
          rw [← HR2.out]
          have e62 : (⟨#[62]⟩ : ByteArray) = bsY [62] := rfl
          rw [e62, bsY_app]
          simp
        obtain ⟨SB, hSB⟩ : ∃ SB, bsY (NM ++ [60] ++ Lib.join (K.map (txt L f)) [44]) = SB := ⟨_, rfl⟩
        rw [hSB] at hss HR3 ⊢
        clear hSB
        go_wp2
        go_ret
        exact ⟨by rw [← HR3.out]; rfl, hnx⟩
  · have hKz : ¬ (0 : Int) < (K.length : Int) := by omega
    obtain ⟨I, hI⟩ : ∃ I, Hid ((decide ((19 : Int) ≤ (xn : Int)) && decide ((xn : Int) ≤ 21)) = I) := ⟨_, rfl⟩
    obtain ⟨q16, hq16⟩ : ∃ q, ((xn : Int) == 16) = q := ⟨_, rfl⟩
    have hwi : withN (xn : Int) = (I || q16) := by
      rw [← hI.out, ← hq16]
      unfold withN
      have hc : xn ≤ 21 := by omega
      have H : ∀ j : Fin 22, ((((j.val : Nat) : Int) == 16 || ((j.val : Nat) : Int) == 19 || ((j.val : Nat) : Int) == 20 || ((j.val : Nat) : Int) == 21)) = ((decide ((19 : Int) ≤ ((j.val : Nat) : Int)) && decide (((j.val : Nat) : Int) ≤ 21)) || (((j.val : Nat) : Int) == 16)) := by decide +kernel
      exact H ⟨xn, by omega⟩
    have hb62 : (⟨#[62]⟩ : ByteArray) = bsY [62] := rfl
    have hb60 : (⟨#[60]⟩ : ByteArray) = bsY [60] := rfl
    cases hW : (I || q16) with
    | true =>
      rw [hW] at hwi
      obtain ⟨n1, n2, _⟩ := k3 hwi
      obtain ⟨u, hu⟩ : ∃ u : Nat, y = (u : Int) := ⟨y.toNat, by omega⟩
      subst hu
      have HNum := specNum u u (Nat.le_refl _) (by omega)
      have hdl := dec_len3 (u := u) (by omega)
      have HR2 : Hid (NB ++ ⟨#[60]⟩ ++ bsY (Lib.decDigits u) ++ ⟨#[62]⟩ = R) := by
        unfold Hid
        have h := HR.out
        rw [if_neg hK0, if_pos hwi] at h
        rw [← h, hb62, hb60, ← HNB.out, bsY_app, bsY_app, bsY_app]
        simp
      have hds : (bsY (Lib.decDigits u)).size ≤ 3 := by rw [bsY_size]; exact hdl
      have HNum2 : Hid (∀ W : World, Calls Tryd.prog 30 #[.int .i64 (u : Int)] W fun e w' => e = .returned (.string (bsY (Lib.decDigits u))) ∧ Below W.heap.size W w') := HNum
      obtain ⟨DB, hDB⟩ : ∃ DB, bsY (Lib.decDigits u) = DB := ⟨_, rfl⟩
      rw [hDB] at HNum2 HR2 hds
      have z1 : (NB ++ ⟨#[60]⟩).size = NB.size + 1 := by rw [ByteArray.size_append]; rfl
      have z2 : (NB ++ ⟨#[60]⟩ ++ DB).size = NB.size + 1 + DB.size := by rw [ByteArray.size_append, z1]
      clear hDB HNum HR HEN k3 hwi hb60 hb62 hdl
      cases I <;> cases q16
      all_goals first
        | (exfalso; simp at hW; done)
        | (clear hW
           go_wp2_with (first | (go_at_call 26; refine (in_eq _ _ _ _ (by assumption) _).mono ?_; rintro e w1 ⟨rfl, hw⟩; obtain rfl := hw.symm) | (go_at_call 30; refine (HNum2.out _).mono ?_; rintro e w3 ⟨rfl, hb3⟩))
           go_ret
           exact ⟨by rw [← HR2.out]; rfl, below2 w2b hb3⟩)
    | false =>
      rw [hW] at hwi
      have HR2 : Hid (NB = R) := by
        unfold Hid
        have h := HR.out
        rw [if_neg hK0, hwi] at h
        rw [← h, ← HNB.out]
        simp
      clear HR HEN k3 hwi hb60 hb62
      cases I <;> cases q16
      all_goals first
        | (exfalso; simp at hW; done)
        | (clear hW
           go_wp2_with (go_at_call 26; refine (in_eq _ _ _ _ (by assumption) _).mono ?_; rintro e w1 ⟨rfl, hw⟩; obtain rfl := hw.symm)
           go_ret
           exact ⟨by rw [← HR2.out]; rfl, w2b⟩)

theorem end_ofT {L : List Nd} (hU : ups L) {k : Nat} (hk : k < L.length) : ∃ e, isEnd L k e := by
  have key : ∀ d, k + 1 + d ≤ L.length → (∀ j, k < j → j < k + 1 + d → (k : Int) ≤ upAt L j) → ∃ e, isEnd L k e := by
    intro d
    induction hd : L.length - (k + 1 + d) generalizing d with
    | zero =>
      intro h1 h2
      exact ⟨L.length, by omega, Nat.le_refl _, fun j g1 g2 => h2 j g1 (by omega), Or.inl rfl⟩
    | succ n ih =>
      intro h1 h2
      by_cases hu : upAt L (k + 1 + d) < (k : Int)
      · exact ⟨k + 1 + d, by omega, h1, h2, Or.inr hu⟩
      · refine ih (d + 1) (by omega) (by omega) (fun j g1 g2 => ?_)
        by_cases e : j = k + 1 + d
        · subst e; omega
        · exact h2 j g1 (by omega)
  have := hU.1
  exact key 0 (by omega) (fun j g1 g2 => by omega)

theorem specText (L : List Nd) (hG : goodT L = true) : ∀ (f k : Nat), k < L.length → L.length - k ≤ f → TextS L f k
  | 0, k, hk, hf => by omega
  | f + 1, k, hk, hf => by
    obtain ⟨e, he⟩ := end_ofT (ups_good hG) hk
    exact specText_step L hG f k e he hf (specText L hG f)

end Go.Proofs.YtebendaiokchdaaDoor
