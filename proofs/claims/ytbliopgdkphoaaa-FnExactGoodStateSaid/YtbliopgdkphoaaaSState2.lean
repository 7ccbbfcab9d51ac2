/-
  Good states: the program's side and the law's.
-/
import Derived.Test.YtbliopgdkphoaaaSState
namespace Go.Proofs.Ytbliopgdkphoaaa
open Go.ChangeShapes Go.WideShapes Go.ChangeAt Go.RowKit

def goodSt (M : Mod7) (mx : Int) (D : ByteArray) (L : List Wd8) : Bool := shape M && (good mx D && (decide (mx = M.most) && fitAll L M.gs))

set_option maxRecDepth 100000 in
set_option maxHeartbeats 1600000 in
theorem implState (l : Loc7) (M : Mod7) (mx : Int) (D : ByteArray) (wa : Option Addr) (wc : Nat) (L : List Wd8) (w : World) (hM : Hid (ModAt w l M)) (hs : Hid (smM M)) (hD : D.size ≤ 1048576) (hL : Hid (Wds w wa L)) (hok : Hid (∀ x ∈ L, okW x)) (hlen : L.length ≤ 1048576) :
    Calls Try.prog 29 #[.agg #[.slice l.fa M.fs.length l.fc, .slice l.ga M.gs.length l.gc, .bool M.mem, .int .i64 M.pages, .int .i64 M.most, .int .i64 M.start], .agg #[.int .i64 mx, .string D, .slice wa L.length wc]] w fun e w' => e = .returned (.bool (goodSt M mx D L)) ∧ Below w.heap.size w w' := by
  obtain ⟨W, hW⟩ : ∃ W, (w.alloc (.cells #[.slice l.fa M.fs.length l.fc, .slice l.ga M.gs.length l.gc, .bool M.mem, .int .i64 M.pages, .int .i64 M.most, .int .i64 M.start] 32)).alloc (.cells #[.int .i64 mx, .string D, .slice wa L.length wc] 46) = W := ⟨_, rfl⟩
  obtain ⟨z, hz⟩ : ∃ z, w.heap.size = z := ⟨_, rfl⟩
  have hbW : Below w.heap.size w W := by rw [← hW]; exact ((Below.refl _ _).alloc (Nat.le_refl _) _).alloc (by simp) _
  have hx : W.heap[z]? = some (.cells #[.slice l.fa M.fs.length l.fc, .slice l.ga M.gs.length l.gc, .bool M.mem, .int .i64 M.pages, .int .i64 M.most, .int .i64 M.start] 32 (0, 0)) := by rw [← hW, ← hz]; exact (Below.heap_alloc _ _ _ (by simp)).trans (heap_alloc_new _ _)
  have hy : W.heap[z + 1]? = some (.cells #[.int .i64 mx, .string D, .slice wa L.length wc] 46 (0, 0)) := by
    rw [← hW, ← hz]
    have h := heap_alloc_new (w.alloc (.cells #[.slice l.fa M.fs.length l.fc, .slice l.ga M.gs.length l.gc, .bool M.mem, .int .i64 M.pages, .int .i64 M.most, .int .i64 M.start] 32)) (.cells #[.int .i64 mx, .string D, .slice wa L.length wc] 46)
    simpa using h
  have HW : Hid ((w.alloc (.cells #[.slice l.fa M.fs.length l.fc, .slice l.ga M.gs.length l.gc, .bool M.mem, .int .i64 M.pages, .int .i64 M.most, .int .i64 M.start] 32)).alloc (.cells #[.int .i64 mx, .string D, .slice wa L.length wc] 46) = W ∧ w.heap.size = z) := ⟨hW, hz⟩
  have HB : Hid (Below w.heap.size w W) := hbW
  have HX : Hid (W.heap[z]? = some (.cells #[.slice l.fa M.fs.length l.fc, .slice l.ga M.gs.length l.gc, .bool M.mem, .int .i64 M.pages, .int .i64 M.most, .int .i64 M.start] 32 (0, 0)) ∧ W.heap[z + 1]? = some (.cells #[.int .i64 mx, .string D, .slice wa L.length wc] 46 (0, 0))) := ⟨hx, hy⟩
  have T2 := implShape l M W (hM.out.below hbW) hs
  obtain ⟨sh, hsh⟩ : ∃ x, shape M = x := ⟨_, rfl⟩
  obtain ⟨gd, hgd⟩ : ∃ x, good mx D = x := ⟨_, rfl⟩
  obtain ⟨ft, hft⟩ : ∃ x, fitAll L M.gs = x := ⟨_, rfl⟩
  have HR : Hid (goodSt M mx D L = (sh && (gd && (decide (mx = M.most) && ft)))) := by unfold Hid goodSt; rw [hsh, hgd, hft]
  have G := mGoodI mx D hD
  have Q : Hid (∀ w', Below w.heap.size w w' → Calls Try.prog 61 #[.slice wa L.length wc, .slice l.ga M.gs.length l.gc, .func (.func 62) #[] #[]] w' fun e w'' => e = .returned (.bool ft) ∧ Below w'.heap.size w' w'') := fun w' hb => by
    rw [← hft]; exact equalWds wa l.ga wc l.gc L M.gs w' (hL.out.below hb) (hM.out.2.below hb) hok hlen (hs.out.2.1)
  rw [hsh] at T2
  rw [hgd] at G
  clear hW hz hbW hx hy hsh hgd hft hM hs hD hL hok hlen
  go_enter Try.func29, Try.ntmps29
  go_wp2_with fail
  rw [HW.out.2, HW.out.1]
  refine T2.mono ?_
  rintro e w2 ⟨rfl, hb2⟩
  have HB2 : Hid (Below w.heap.size w w2) := bel_step HB.out hb2
  have hx2 := (hb2.block z (lt_of_block HX.out.1)).trans HX.out.1
  have hy2 := (hb2.block (z + 1) (lt_of_block HX.out.2)).trans HX.out.2
  clear T2 hb2
  cases sh
  · clear hx2 hy2 G Q
    go_wp2
    go_ret
    exact ⟨by rw [HR.out]; rfl, HB2.out⟩
  · have y0 : w2.cell? ⟨z + 1, 0, none⟩ = some (.int .i64 mx) := (cell_of_block hy2 0).trans rfl
    have y1 : w2.cell? ⟨z + 1, 1, none⟩ = some (.string D) := (cell_of_block hy2 1).trans rfl
    go_wp2_with fail
    refine (G _).mono ?_
    rintro e w3 ⟨rfl, hb3⟩
    have HB3 : Hid (Below w.heap.size w w3) := bel_step HB2.out hb3
    have hx3 := (hb3.block z (lt_of_block hx2)).trans hx2
    have hy3 := (hb3.block (z + 1) (lt_of_block hy2)).trans hy2
    clear G hb3 hx2 hy2 y0 y1
    cases gd
    · clear hx3 hy3 Q
      go_wp2
      go_ret
      exact ⟨by rw [HR.out]; rfl, HB3.out⟩
    · have y0 : w3.cell? ⟨z + 1, 0, none⟩ = some (.int .i64 mx) := (cell_of_block hy3 0).trans rfl
      have y2 : w3.cell? ⟨z + 1, 2, none⟩ = some (.slice wa L.length wc) := (cell_of_block hy3 2).trans rfl
      have x4 : w3.cell? ⟨z, 4, none⟩ = some (.int .i64 M.most) := (cell_of_block hx3 4).trans rfl
      have x1 : w3.cell? ⟨z, 1, none⟩ = some (.slice l.ga M.gs.length l.gc) := (cell_of_block hx3 1).trans rfl
      by_cases em : mx = M.most
      · have e1 : (mx == M.most) = true := by simpa using em
        have HD : Hid (decide (mx = M.most) = true) := by unfold Hid; simpa using em
        clear em hx3 hy3
        go_wp2_with fail
        refine (Q.out _ HB3.out).mono ?_
        rintro e w4 ⟨rfl, hb4⟩
        have HB4 : Hid (Below w.heap.size w w4) := bel_step HB3.out hb4
        clear hb4 Q y0 y2 x4 x1
        go_wp2
        go_ret
        exact ⟨by rw [HR.out, HD.out]; simp, HB4.out⟩
      · have e1 : (mx == M.most) = false := by simpa using em
        have HD : Hid (decide (mx = M.most) = false) := by unfold Hid; simpa using em
        clear em hx3 hy3 Q
        go_wp2
        go_ret
        exact ⟨by rw [HR.out, HD.out]; rfl, HB3.out⟩

theorem good_zero {M : Mod7} {mx : Int} {D : ByteArray} (h : shape M = true) (hm : M.mem = false) : (good mx D && decide (mx = M.most)) = (decide (mx = 0) && decide (D.size = 0)) := by
  have hp : M.most = 0 := by
    unfold shape goodP at h
    simp only [Bool.and_eq_true, hm] at h
    have := h.1.2
    simp at this
    exact this.2
  rw [hp]
  by_cases h0 : mx = 0
  · subst h0
    have e : good 0 D = decide (D.size = 0) := by
      unfold good
      simp only [← Bool.decide_and]
      rw [decide_eq_decide]
      omega
    rw [e]
    simp
  · simp [h0]

theorem bl_loop (D : ByteArray) : ∀ (n i : Nat) (r : List UInt8), D.size - i = n → (ByteArray.toList.loop D i r).length = r.length + n
  | 0, i, r, h => by
    unfold ByteArray.toList.loop
    rw [if_neg (by omega), List.length_reverse]; rfl
  | n + 1, i, r, h => by
    unfold ByteArray.toList.loop
    rw [if_pos (by omega), bl_loop D n (i + 1) _ (by omega), List.length_cons]; omega
theorem bl_nil (D : ByteArray) : D.toList = [] ↔ D.size = 0 := by
  rw [← List.length_eq_zero_iff]
  unfold ByteArray.toList
  rw [bl_loop D D.size 0 [] (by omega)]
  simp

set_option maxRecDepth 100000 in
set_option maxHeartbeats 3200000 in
theorem specState (l : Loc7) (M : Mod7) (mx : Int) (D : ByteArray) (wa : Option Addr) (wc : Nat) (L : List Wd8) (w : World) (hM : Hid (ModAt w l M)) (hs : Hid (smM M)) (hD : D.size ≤ 1048576) (hL : Hid (Wds w wa L)) (hlen : L.length ≤ 1048576) :
    Calls Try.prog 27 #[.agg #[.slice l.fa M.fs.length l.fc, .slice l.ga M.gs.length l.gc, .bool M.mem, .int .i64 M.pages, .int .i64 M.most, .int .i64 M.start], .agg #[.int .i64 mx, .string D, .slice wa L.length wc]] w fun e w' => e = .returned (.bool (goodSt M mx D L)) ∧ Below w.heap.size w w' := by
  obtain ⟨n, hn⟩ : ∃ n, L.length = n := ⟨_, rfl⟩
  obtain ⟨m, hm⟩ : ∃ m, M.gs.length = m := ⟨_, rfl⟩
  have HNM : Hid (L.length = n ∧ M.gs.length = m) := ⟨hn, hm⟩
  have hn2 : n ≤ 1048576 := by omega
  have hm2 : m ≤ 1048576 := by have := hs.out.2.1; omega
  obtain ⟨W, hW⟩ : ∃ W, (w.alloc (.cells #[.slice l.fa M.fs.length l.fc, .slice l.ga m l.gc, .bool M.mem, .int .i64 M.pages, .int .i64 M.most, .int .i64 M.start] 32)).alloc (.cells #[.int .i64 mx, .string D, .slice wa n wc] 46) = W := ⟨_, rfl⟩
  obtain ⟨z, hz⟩ : ∃ z, w.heap.size = z := ⟨_, rfl⟩
  have hbW : Below w.heap.size w W := by rw [← hW]; exact ((Below.refl _ _).alloc (Nat.le_refl _) _).alloc (by simp) _
  have hx : W.heap[z]? = some (.cells #[.slice l.fa M.fs.length l.fc, .slice l.ga m l.gc, .bool M.mem, .int .i64 M.pages, .int .i64 M.most, .int .i64 M.start] 32 (0, 0)) := by rw [← hW, ← hz]; exact (Below.heap_alloc _ _ _ (by simp)).trans (heap_alloc_new _ _)
  have hy : W.heap[z + 1]? = some (.cells #[.int .i64 mx, .string D, .slice wa n wc] 46 (0, 0)) := by
    rw [← hW, ← hz]
    have h := heap_alloc_new (w.alloc (.cells #[.slice l.fa M.fs.length l.fc, .slice l.ga m l.gc, .bool M.mem, .int .i64 M.pages, .int .i64 M.most, .int .i64 M.start] 32)) (.cells #[.int .i64 mx, .string D, .slice wa n wc] 46)
    simpa using h
  have HW : Hid ((w.alloc (.cells #[.slice l.fa M.fs.length l.fc, .slice l.ga m l.gc, .bool M.mem, .int .i64 M.pages, .int .i64 M.most, .int .i64 M.start] 32)).alloc (.cells #[.int .i64 mx, .string D, .slice wa n wc] 46) = W ∧ w.heap.size = z) := ⟨hW, hz⟩
  have HB : Hid (Below w.heap.size w W) := hbW
  have HX : Hid (W.heap[z]? = some (.cells #[.slice l.fa M.fs.length l.fc, .slice l.ga m l.gc, .bool M.mem, .int .i64 M.pages, .int .i64 M.most, .int .i64 M.start] 32 (0, 0)) ∧ W.heap[z + 1]? = some (.cells #[.int .i64 mx, .string D, .slice wa n wc] 46 (0, 0))) := ⟨hx, hy⟩
  have T2 : Calls Try.prog 16 #[.agg #[.slice l.fa M.fs.length l.fc, .slice l.ga m l.gc, .bool M.mem, .int .i64 M.pages, .int .i64 M.most, .int .i64 M.start]] W fun e w' => e = .returned (.bool (shape M)) ∧ Below W.heap.size W w' := by
    have h := specShapeM l M W (hM.out.below hbW) hs
    unfold modV at h
    rw [hm] at h
    exact h
  obtain ⟨sh, hsh⟩ : ∃ x, shape M = x := ⟨_, rfl⟩
  have HSH : Hid (shape M = sh) := hsh
  have G := mGoodS mx D hD
  rw [hsh] at T2
  rw [hn, hm]
  clear hn hm hW hz hbW hx hy hsh hD hlen
  go_enter Try.func27, Try.ntmps27
  go_wp2_with fail
  rw [HW.out.2, HW.out.1]
  refine T2.mono ?_
  rintro e w2 ⟨rfl, hb2⟩
  have HB2 : Hid (Below w.heap.size w w2) := bel_step HB.out hb2
  have hx2 := (hb2.block z (lt_of_block HX.out.1)).trans HX.out.1
  have hy2 := (hb2.block (z + 1) (lt_of_block HX.out.2)).trans HX.out.2
  clear T2 hb2
  have x1 : w2.cell? ⟨z, 1, none⟩ = some (.slice l.ga m l.gc) := (cell_of_block hx2 1).trans rfl
  have y2 : w2.cell? ⟨z + 1, 2, none⟩ = some (.slice wa n wc) := (cell_of_block hy2 2).trans rfl
  cases sh
  · have HR : Hid (goodSt M mx D L = false) := by unfold Hid goodSt; rw [HSH.out]; rfl
    clear hx2 hy2 G
    go_wp2
    go_ret
    exact ⟨by rw [HR.out]; rfl, HB2.out⟩
  · by_cases hnm : n = m
    · subst hnm
      have HX2 : Hid (w2.heap[z]? = some (.cells #[.slice l.fa M.fs.length l.fc, .slice l.ga n l.gc, .bool M.mem, .int .i64 M.pages, .int .i64 M.most, .int .i64 M.start] 32 (0, 0)) ∧ w2.heap[z + 1]? = some (.cells #[.int .i64 mx, .string D, .slice wa n wc] 46 (0, 0))) := ⟨hx2, hy2⟩
      clear hx2 hy2
      go_wp2
      clear x1 y2
      go_loopw [22] (fun i wr => ∃ (k : Nat), k ≤ n ∧ i = .int .i64 k ∧ Hid (fitUp L M.gs k) ∧ Hid (Below w2.heap.size w2 wr)) (fun i _ => n - (intOf i).toNat)
      case atStart => exact ⟨0, by omega, rfl, fun j _ _ h => absurd h (by omega), Below.refl _ _⟩
      case round =>
        obtain ⟨k, hk, rfl, hF, hnx⟩ := hrel
        by_cases hlt : k < n
        · have hkL : k < L.length := by have := HNM.out.1; omega
          have hkG : k < M.gs.length := by have := HNM.out.2; omega
          obtain ⟨b, off, rfl, hb, hc⟩ := hL.out.at k hkL
          obtain ⟨b', off', hga, hb', hd⟩ := hM.out.2.at k hkG
          have hyes := fun h => fitUp_more hF.out hkL hkG h
          have hno := fun h => fitAll_no (L := L) (G := M.gs) k hkL hkG h
          obtain ⟨x, hx⟩ : ∃ x, x = L[k] := ⟨_, rfl⟩
          obtain ⟨y, hy⟩ : ∃ y, y = M.gs[k] := ⟨_, rfl⟩
          rw [← hx] at hc hyes hno
          rw [← hy] at hd hyes hno
          obtain ⟨ty, bits⟩ := x
          obtain ⟨t, fx, bb⟩ := y
          clear hx hy
          obtain ⟨c0, c1⟩ := hc
          obtain ⟨e0, e1, e2⟩ := hd
          simp only at c0 c1 e0 e1 e2
          have hBr := bel_step HB2.out hnx.out
          have hc0 : wr.cell? ⟨b, off + k * 2, none⟩ = some (.int .i64 ty) := (hBr.cell (by exact hb)).trans c0
          have hc1 : wr.cell? ⟨b, off + k * 2 + 1, none⟩ = some (.int .u64 bits) := (hBr.cell (by exact hb)).trans c1
          have T := l8Wd ty bits
          obtain ⟨R, hR⟩ : ∃ R, goodWd ⟨ty, bits⟩ = R := ⟨_, rfl⟩
          rw [hR] at T
          have HY : Hid (ty = t → R = true → fitUp L M.gs (k + 1)) := fun h1 h2 => hyes (by unfold fitWd; simp only; rw [hR, h2, h1]; simp)
          have HN : Hid (¬ (ty = t ∧ R = true) → fitAll L M.gs = false) := fun h => hno (by unfold fitWd; simp only; rw [hR]; cases R <;> simp_all)
          have hxr := (hnx.out.block z (lt_of_block HX2.out.1)).trans HX2.out.1
          rw [hga] at hxr
          have hgl := lt_of_block hxr
          have hb'r : b' < wr.heap.size := Nat.lt_of_lt_of_le hb' hBr.size
          obtain ⟨A, hA⟩ : ∃ A, wr.alloc (.cells #[.int .i64 ty, .int .u64 bits] 86) = A := ⟨_, rfl⟩
          have hbA : Below wr.heap.size wr A := by rw [← hA]; exact (Below.refl _ _).alloc (Nat.le_refl _) _
          have hnew : A.heap[wr.heap.size]? = some (.cells #[.int .i64 ty, .int .u64 bits] 86 (0, 0)) := by rw [← hA]; exact heap_alloc_new _ _
          have hnl := lt_of_block hnew
          have k0 : ∀ w', Keeps A w' → w'.cell? ⟨wr.heap.size, 0, none⟩ = some (.int .i64 ty) := fun w' h => h.cell hnl ((cell_of_block hnew 0).trans rfl)
          have k1 : ∀ w', Keeps A w' → w'.cell? ⟨wr.heap.size, 1, none⟩ = some (.int .u64 bits) := fun w' h => h.cell hnl ((cell_of_block hnew 1).trans rfl)
          have k2 : ∀ w', Keeps A w' → w'.cell? ⟨z, 1, none⟩ = some (.slice (some ⟨b', off', none⟩) n l.gc) := fun w' h => h.cell (Nat.lt_of_lt_of_le hgl hbA.size) ((hbA.cell (p := ⟨z, 1, none⟩) hgl).trans ((cell_of_block hxr 1).trans rfl))
          have k3 : ∀ w', Keeps A w' → w'.cell? ⟨b', off' + k * 3, none⟩ = some (.int .i64 t) := fun w' h => h.cell (Nat.lt_of_lt_of_le hb'r hbA.size) ((hbA.cell (p := ⟨b', off' + k * 3, none⟩) hb'r).trans ((hBr.cell (p := ⟨b', off' + k * 3, none⟩) hb').trans e0))
          have hkn : (k : Int) < (n : Int) := by omega
          have HA : Hid (wr.alloc (.cells #[.int .i64 ty, .int .u64 bits] 86) = A ∧ Below w2.heap.size w2 A) := ⟨hA, bel_step hnx.out hbA⟩
          clear hR hyes hno c0 c1 e0 e1 e2 hxr hgl hb'r hbA hnew hnl hA hBr hga
          go_wp2_with fail
          rw [HA.out.1]
          refine region_w (C := Keeps A) (by kernel_rfl) (by kernel_rfl) (Keeps.drew A) ?_
          cases R
          · clear HY
            (iterate 4
              (apply wq_go _ (by rfl)
               · intro wq hq
                 go_simp
                 first
                   | (go_at_call 56; exact qcall hq (T _))
                   | exact rfl
               simp only [Act.put, List.setIfInBounds_toArray, List.set_cons_succ, List.set_cons_zero]))
            (iterate 9 (refine wq_no (by rfl) ?_; simp only [Act.put, List.setIfInBounds_toArray, List.set_cons_succ, List.set_cons_zero]))
            (iterate 1
              (apply wq_go _ (by rfl)
               · intro wq hq
                 go_simp
                 first
                   | (go_at_call 56; exact qcall hq (T _))
                   | exact rfl
               simp only [Act.put, List.setIfInBounds_toArray, List.set_cons_succ, List.set_cons_zero]))
            refine wq_nil ?_
            intro w4 hk4
            have HB4 : Hid (Below w.heap.size w w4) := bel_step HB2.out (bel_step HA.out.2 hk4.below)
            have HR : Hid (goodSt M mx D L = false) := by unfold Hid goodSt; rw [HN.out (by simp)]; simp
            clear k0 k1 k2 k3 hk4 T HN hc0 hc1
            go_wp2
            go_ret
            exact ⟨by rw [HR.out]; rfl, HB4.out⟩
          · clear hF
            (iterate 14
              (apply wq_go _ (by rfl)
               · intro wq hq
                 go_simp
                 first
                   | (go_at_call 56; exact qcall hq (T _))
                   | exact rfl
               simp only [Act.put, List.setIfInBounds_toArray, List.set_cons_succ, List.set_cons_zero]))
            refine wq_nil ?_
            intro w4 hk4
            have HB4 : Hid (Below w2.heap.size w2 w4) := bel_step HA.out.2 hk4.below
            clear k0 k1 k2 k3 hk4 T hc0 hc1
            by_cases hty : ty = t
            · have HF2 : Hid (fitUp L M.gs (k + 1)) := HY.out hty rfl
              subst hty
              clear HY HN
              go_wp2
              go_roundw
              case rel => exact ⟨k + 1, by omega, by go_num, HF2, HB4⟩
              case measure => simp [intOf]; omega
            · have ht1 : (ty != t) = true := by simpa using hty
              have HR : Hid (goodSt M mx D L = false) := by unfold Hid goodSt; rw [HN.out (fun h => hty h.1)]; simp
              clear HY HN hty
              go_wp2
              go_ret
              exact ⟨by rw [HR.out]; rfl, bel_step HB2.out HB4.out⟩
        · have hft : fitAll L M.gs = true := fitAll_yes (by have := HNM.out; omega) (by
            have h1 := hF.out
            have h2 : k = L.length := by have := HNM.out; omega
            rw [← h2]; exact h1)
          have HR : Hid (goodSt M mx D L = (good mx D && decide (mx = M.most))) := by unfold Hid goodSt; rw [HSH.out, hft]; simp
          have hxr := (hnx.out.block z (lt_of_block HX2.out.1)).trans HX2.out.1
          have hyr := (hnx.out.block (z + 1) (lt_of_block HX2.out.2)).trans HX2.out.2
          have HBr : Hid (Below w.heap.size w wr) := bel_step HB2.out hnx.out
          have x2 : wr.cell? ⟨z, 2, none⟩ = some (.bool M.mem) := (cell_of_block hxr 2).trans rfl
          have x4 : wr.cell? ⟨z, 4, none⟩ = some (.int .i64 M.most) := (cell_of_block hxr 4).trans rfl
          have y0 : wr.cell? ⟨z + 1, 0, none⟩ = some (.int .i64 mx) := (cell_of_block hyr 0).trans rfl
          have y1 : wr.cell? ⟨z + 1, 1, none⟩ = some (.string D) := (cell_of_block hyr 1).trans rfl
          obtain ⟨mm, hmm⟩ : ∃ x, M.mem = x := ⟨_, rfl⟩
          rw [hmm] at x2
          have HMM : Hid (M.mem = mm) := hmm
          clear hmm hft hF hnx
          cases mm
          · have HR2 : Hid (goodSt M mx D L = (decide (mx = 0) && decide (D.size = 0))) := by unfold Hid; rw [HR.out]; exact good_zero HSH.out HMM.out
            clear hxr hyr G x4 HR
            by_cases hm0 : mx = 0
            · by_cases hd0 : D.toList = []
              · have HT : Hid (goodSt M mx D L = true) := by unfold Hid; rw [HR2.out]; simp [hm0, (bl_nil D).1 hd0]
                clear HR2
                go_wp2
                go_ret
                exact ⟨by rw [HT.out]; rfl, HBr.out⟩
              · have HT : Hid (goodSt M mx D L = false) := by unfold Hid; rw [HR2.out, decide_eq_false (fun h => hd0 ((bl_nil D).2 h)), Bool.and_false]
                clear HR2
                go_wp2
                go_ret
                exact ⟨by rw [HT.out]; rfl, HBr.out⟩
            · have HT : Hid (goodSt M mx D L = false) := by unfold Hid; rw [HR2.out]; simp [hm0]
              clear HR2
              go_wp2
              go_ret
              exact ⟨by rw [HT.out]; rfl, HBr.out⟩
          · obtain ⟨gd, hgd⟩ : ∃ x, good mx D = x := ⟨_, rfl⟩
            rw [hgd] at G HR
            clear hgd
            go_wp2_with fail
            refine (G _).mono ?_
            rintro e w5 ⟨rfl, hb5⟩
            have HB5 : Hid (Below w.heap.size w w5) := bel_step HBr.out hb5
            have u4 : w5.cell? ⟨z, 4, none⟩ = some (.int .i64 M.most) := (hb5.cell (p := ⟨z, 4, none⟩) (lt_of_block hxr)).trans x4
            have v0 : w5.cell? ⟨z + 1, 0, none⟩ = some (.int .i64 mx) := (hb5.cell (p := ⟨z + 1, 0, none⟩) (lt_of_block hyr)).trans y0
            clear hb5 hxr hyr x2 x4 y0 y1 G
            cases gd
            · go_wp2
              go_ret
              exact ⟨by rw [HR.out]; rfl, HB5.out⟩
            · by_cases em : mx = M.most
              · have e1 : (mx == M.most) = true := by simpa using em
                have HD : Hid (decide (mx = M.most) = true) := by unfold Hid; simpa using em
                clear em
                go_wp2
                go_ret
                exact ⟨by rw [HR.out, HD.out]; rfl, HB5.out⟩
              · have e1 : (mx == M.most) = false := by simpa using em
                have HD : Hid (decide (mx = M.most) = false) := by unfold Hid; simpa using em
                clear em
                go_wp2
                go_ret
                exact ⟨by rw [HR.out, HD.out]; rfl, HB5.out⟩
    · have e : ((n : Int) != (m : Int)) = true := by simp; omega
      have HR : Hid (goodSt M mx D L = false) := by unfold Hid goodSt; rw [fitAll_len (by have := HNM.out; omega)]; simp
      clear hx2 hy2 G
      go_wp2
      go_ret
      exact ⟨by rw [HR.out]; rfl, HB2.out⟩

end Go.Proofs.Ytbliopgdkphoaaa
