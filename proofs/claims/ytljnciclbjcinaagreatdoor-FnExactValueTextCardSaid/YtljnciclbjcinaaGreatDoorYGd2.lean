/-
  How many parts each node has: the program's walk over the nodes with those around in a row.
-/
import Derived.Test.YtljnciclbjcinaaGreatDoorYGd1
namespace Go.Proofs.YtljnciclbjcinaaGreatDoor
open Go.ChangeShapes Go.WideShapes Go.ChangeAt Go.RowKit

theorem stk_next {U : Nat → Int} {m : Nat} {s : List Nat} (h : stk U m = some s) : stk U (m + 1) = if (pops (U (m + 1)) s).length = 0 ∨ (pops (U (m + 1)) s).length = 8 then none else some ((m + 1) :: pops (U (m + 1)) s) := by
  conv => lhs; unfold stk
  rw [h]
theorem pops_cons_ne {u : Int} {j : Nat} {r : List Nat} (h : ¬ (j : Int) = u) : pops u (j :: r) = pops u r := by
  conv => lhs; unfold pops
  rw [if_neg h]
theorem pops_cons_eq {u : Int} {j : Nat} {r : List Nat} (h : (j : Int) = u) : pops u (j :: r) = j :: r := by
  conv => lhs; unfold pops
  rw [if_pos h]
theorem outRow_get (o : Nat → Nat) (n k : Nat) (h : k < n) : (outRow o n)[k]? = some (.int .i64 ((o k : Nat) : Int)) := by simp [outRow, h]

theorem pops_sub (u : Int) : ∀ (t : List Nat) (j : Nat), j ∈ pops u t → j ∈ t
  | [], j, hj => by simp [pops] at hj
  | a :: b, j, hj => by
    unfold pops at hj
    split at hj
    · exact hj
    · exact List.mem_cons_of_mem _ (pops_sub u b j hj)
def lenY : Value → Nat
  | .slice _ n _ => n
  | _ => 0
theorem stk_at {U : Nat → Int} {m : Nat} {s : List Nat} (hm : 1 ≤ m) (h : stk U (m - 1) = some s) : stk U m = if (pops (U m) s).length = 0 ∨ (pops (U m) s).length = 8 then none else some (m :: pops (U m) s) := by
  have := stk_next h
  rw [show m - 1 + 1 = m by omega] at this
  exact this

/-- What is told of the parts. -/
def ToldC (w w' : World) (L : List Nd) (e : Ending) : Prop :=
  ((∃ s, stk (upAt L) (L.length - 1) = some s ∧ e = .returned (.tuple #[.slice (some ⟨w.heap.size, 0, none⟩) L.length L.length, .bool true]) ∧ w'.heap[w.heap.size]? = some (.cells (outRow (cntTo L L.length) L.length) 3 (0, 0))) ∨
   (stk (upAt L) (L.length - 1) = none ∧ e = .returned (.tuple #[.slice none 0 0, .bool false]))) ∧ Below w.heap.size w w'

set_option maxRecDepth 100000 in
set_option maxHeartbeats 3200000 in
theorem implCount (b off cap : Nat) (L : List Nd) (w : World) (hb : b < w.heap.size) (hL : Hid (ndAt w b off L)) (h1 : 1 ≤ L.length) (h40 : L.length ≤ 40) :
    Calls Tryz.prog 75 #[.slice (some ⟨b, off, none⟩) L.length cap] w fun e w' => ToldC w w' L e := by
  obtain ⟨i0, hi, hz0, hz1, hz2⟩ := info_parts Tryz.infoY
  have hc := (hL.out 0 h1).2.2
  have HU : Hid (upAt L 0 = L[0].2.2) := upAt_get L 0 h1
  obtain ⟨u, hu⟩ : ∃ u, u = L[0].2.2 := ⟨_, rfl⟩
  rw [← hu] at hc HU
  clear hu
  have hc0 : w.cell? ⟨b, off + 2, none⟩ = some (.int .i64 u) := by simpa using hc
  clear hc
  by_cases hu : u = -1
  · subst hu
    have S0 : Hid (stk (upAt L) 0 = some [0]) := by unfold Hid stk; rw [if_pos HU.out]
    have hmk : ∀ W : World, (Instr.makeSlice 90 (.int .i64 (L.length : Int)) (.int .i64 (L.length : Int))).run Tryz.prog W = .ok (.slice (some ⟨W.heap.size, 0, none⟩) L.length L.length) (W.alloc (.cells (outRow (cntTo L 1) L.length) 3)) := fun W => by
      have h := run_make (P := Tryz.prog) W 90 3 i0 _ Tryz.underlying90 hi hz0 .i64 .i64 (L.length : Int) (L.length : Int) (by omega) (by omega) (by rw [hz2]; omega) (by omega)
      have e1 : ((L.length : Nat) : Int).toNat * i0.size = L.length := by rw [hz1]; omega
      have e2 : outRow (fun _ => 0) L.length = outRow (cntTo L 1) L.length := by unfold outRow; simp [cntTo_one]
      rw [e1, made_i64, e2] at h
      simpa using h
    go_enter Tryz.func75, Tryz.ntmps75
    go_wp2
    go_loopw [5, 6] (fun v i wr => ∃ (m : Nat) (s : List Nat), 1 ≤ m ∧ m ≤ L.length ∧ i = .int .i64 (m : Int) ∧ Hid (stk (upAt L) (m - 1) = some s) ∧ s.length ≤ 8 ∧ wr.ownsRow (w.heap.size + 1) 3 1 v s.length (nv s.reverse) ∧ wr.heap[w.heap.size]? = some (.cells (outRow (cntTo L m) L.length) 3 (0, 0)) ∧ Below w.heap.size w wr) (fun _ i _ => L.length - (intOf i).toNat)
    case atStart =>
      have ho := own_new (w.alloc (.cells (outRow (cntTo L 1) L.length) 3)) (w.heap.size + 1) 3 (.int .i64 0) (by simp)
      refine ⟨1, [0], by omega, h1, rfl, S0, by simp, by simpa [nv] using ho, ?_, ((Below.refl _ _).alloc (Nat.le_refl _) _).alloc (by simp) _⟩
      exact (Below.heap_alloc _ _ _ (by simp)).trans (heap_alloc_new _ _)
    case round =>
      clear hmk S0
      obtain ⟨m, s, hm1, hm2, rfl, hS, hs8, hown, hpt, hnx⟩ := hrel
      have hsz := hnx.size
      have hgl := lt_of_block hpt
      by_cases hlt : m < L.length
      · have hc := (hL.out m hlt).2.2
        have HV : Hid (upAt L m = L[m].2.2) := upAt_get L m hlt
        obtain ⟨u, hu⟩ : ∃ u, u = L[m].2.2 := ⟨_, rfl⟩
        rw [← hu] at hc HV
        clear hu hc0 HU
        have hc0 : wr.cell? ⟨b, off + m * 3 + 2, none⟩ = some (.int .i64 u) := (hnx.cell (by exact hb)).trans hc
        clear hc
        go_wp2
        go_loopw [5] (fun v wx => ∃ t : List Nat, wx = wr ∧ t.length ≤ 8 ∧ Hid (pops u t = pops u s) ∧ wr.ownsRow (w.heap.size + 1) 3 1 v t.length (nv t.reverse)) (fun v _ => lenY v)
        case atStart => exact ⟨s, rfl, hs8, rfl, hown⟩
        case round =>
          obtain ⟨t, hw, ht8, hp, hown1⟩ := hrel
          subst hw
          match t, ht8, hp, hown1 with
          | [], ht8, hp, hown1 =>
            have SN : Hid (stk (upAt L) m = none) := by
              unfold Hid; rw [stk_at hm1 hS.out, HV.out, ← hp.out]; simp [pops]
            obtain ⟨a', c', rfl⟩ := ownsRow_shape hown1
            go_wp2
            go_ret2
            exact ⟨Or.inr ⟨stk_none m _ SN.out (by omega), rfl⟩, hnx⟩
          | j :: r, ht8, hp, hown1 =>
            obtain ⟨g, c, rfl, hgc⟩ := own_pos hown1 (by simp)
            have hcj : wr.cell? ⟨g, r.length, none⟩ = some (.int .i64 (j : Int)) := (hown1.cellAt r.length (by simp)).trans (by simp [nv])
            have hl8 : r.length + 1 ≤ 8 := ht8
            simp only [List.length_cons] at hown1 hgc
            by_cases hju : (j : Int) = u
            · subst hju
              have HPS : Hid (pops (j : Int) s = j :: r) := hp.out.symm.trans (pops_cons_eq rfl)
              have hjm : j < m := by
                have := (stk_good _ _ hS.out).2.2.2 j (pops_sub _ _ _ (by rw [HPS.out]; simp))
                omega
              by_cases h8 : r.length + 1 = 8
              · have SN : Hid (stk (upAt L) m = none) := by
                  unfold Hid; rw [stk_at hm1 hS.out, HV.out, HPS.out, if_pos (Or.inr (by simpa using h8))]
                have e8 : ((r.length : Int) + 1 == 8) = true := by simp; omega
                have e0 : ((r.length : Int) + 1 == 0) = false := by simp; omega
                clear h8
                go_wp2
                go_ret2
                exact ⟨Or.inr ⟨stk_none m _ SN.out (by omega), rfl⟩, hnx⟩
              · have SY : Hid (stk (upAt L) m = some (m :: j :: r)) := by
                  unfold Hid; rw [stk_at hm1 hS.out, HV.out, HPS.out, if_neg (by simp only [List.length_cons]; omega)]
                have e8 : ((r.length : Int) + 1 == 8) = false := by simp; omega
                have e0 : ((r.length : Int) + 1 == 0) = false := by simp; omega
                obtain ⟨N, hN⟩ : ∃ N, N = cntTo L m j := ⟨_, rfl⟩
                have hNm : N ≤ m := by rw [hN]; exact cntTo_le ..
                have d0 : wr.cell? ⟨w.heap.size, j, none⟩ = some (.int .i64 (N : Int)) := by rw [cell_of_block hpt, outRow_get _ _ _ (by omega), hN]
                have f0 := free_of_block hpt j
                have hpt2 : (wr.setCell ⟨w.heap.size, j, none⟩ (.int .i64 ((N : Int) + 1))).heap[w.heap.size]? = some (.cells (outRow (cntTo L (m + 1)) L.length) 3 (0, 0)) := by
                  rw [heap_setCell_same _ _ _ _ _ _ hpt, show ((N : Int) + 1) = ((N + 1 : Nat) : Int) by omega, outRow_set]
                  congr 3
                  funext i
                  rw [cntTo_succ L m i (by omega), HV.out]
                  by_cases e : i = j
                  · subst e; simp [hN]
                  · have : ¬ (j : Int) = (i : Int) := by omega
                    simp [e, this]
                have hown2 : (wr.setCell ⟨w.heap.size, j, none⟩ (.int .i64 ((N : Int) + 1))).ownsRow (w.heap.size + 1) 3 1 (.slice (some ⟨g, 0, none⟩) (r.length + 1) c) (r.length + 1) (nv (j :: r).reverse) := own_keep hown1 fun g' hg' => by
                  have := ownsRow_block hown1 g' hg'
                  exact heap_setCell_other _ _ _ _ (by simp; omega)
                have HPT : Hid ((wr.setCell ⟨w.heap.size, j, none⟩ (.int .i64 ((N : Int) + 1))).heap[w.heap.size]? = some (.cells (outRow (cntTo L (m + 1)) L.length) 3 (0, 0))) := hpt2
                have hbW := hnx.setCell (B := w.heap.size) (Nat.le_refl _) (.int .i64 ((N : Int) + 1)) (p := ⟨w.heap.size, j, none⟩)
                clear hpt2 hN hown1 hown hp
                go_wp2_with (at_builtin; refine wpList_append_own _ rfl _ _ 90 rfl (w.heap.size + 1) 3 i0 (.int .i64 0) 1 8 Tryz.underlying90 hi hz0 hz1 hz2 rfl (by decide) _ _ _ rfl (hown2.alloc _) ⟨wr.heap.size, 0, none⟩ 1 1 (nv [m]) rfl rfl (one_new _ _ _ _ (by simp)) (nv_one _) (by unfold maxLen; omega) (by omega) (by simp; omega) ?_)
                intro v' w2 hown' hgrow' _
                have hb2 : Below w.heap.size w w2 := (hbW.alloc (by simp; omega) _).grown hgrow' (by simp; omega) (fun k hk => by have := ownsRow_block hown2 k hk; omega)
                have hpt3 : w2.heap[w.heap.size]? = some (.cells (outRow (cntTo L (m + 1)) L.length) 3 (0, 0)) := by
                  rw [hgrow'.block w.heap.size (by simp; omega) (fun h => by have := ownsRow_block hown2 _ h.symm; omega)]
                  exact (Below.heap_alloc _ _ _ (by simp; omega)).trans HPT.out
                have hown3 : w2.ownsRow (w.heap.size + 1) 3 1 v' (m :: j :: r).length (nv (m :: j :: r).reverse) := by
                  rw [nv_app] at hown'
                  simpa using hown'
                clear hgrow' hown' hown2
                go_wp2
                go_roundw
                case rel => exact ⟨m + 1, m :: j :: r, by omega, by omega, by go_num, by simpa using SY, by simp only [List.length_cons]; omega, hown3, hpt3, hb2⟩
                case measure => simp [intOf]; omega
            · have n1 : ((j : Int) == u) = false := by simpa using hju
              have HP : Hid (pops u r = pops u s) := (pops_cons_ne hju).symm.trans hp.out
              go_wp2
              go_roundw
              case rel => exact ⟨r, trivial, by omega, HP, by simpa [nv] using own_take hown1⟩
              case measure => simp [lenY]
      · obtain rfl : m = L.length := by omega
        go_wp2
        go_ret2
        exact ⟨Or.inl ⟨s, hS.out, rfl, hpt⟩, hnx⟩
  · have S0 : Hid (stk (upAt L) 0 = none) := by unfold Hid stk; rw [if_neg (by rw [HU.out]; exact hu)]
    have e1 : (u == -1) = false := by simpa using hu
    go_enter Tryz.func75, Tryz.ntmps75
    go_wp2
    go_ret2
    exact ⟨Or.inr ⟨stk_none 0 _ S0.out (by omega), rfl⟩, Below.refl _ _⟩

end Go.Proofs.YtljnciclbjcinaaGreatDoor
