/-
  Rows of core types joined: the program's side, and the specification's join of two.
-/
import Derived.Test.YthoenaoanikppaaDoorYFl1
namespace Go.Proofs.YthoenaoanikppaaDoor
open Go.ChangeShapes Go.WideShapes Go.ChangeAt Go.RowKit

def iy (l : List Int) : List Value := l.map fun b => .int .i64 b
theorem iy_app (l m : List Int) : iy l ++ iy m = iy (l ++ m) := by simp [iy]
theorem iy_len (l : List Int) : (iy l).length = l.length := by simp [iy]
theorem iy_one (l : List Int) : ∀ u ∈ iy l, u.oneCell' = true := by
  intro u hu; simp only [iy, List.mem_map] at hu; obtain ⟨b, _, rfl⟩ := hu; rfl
theorem iy_set (l : List Int) (m : Nat) (x : Int) : (iy l).set m (.int .i64 x) = iy (l.set m x) := by simp [iy, List.map_set]

set_option maxRecDepth 100000 in
set_option maxHeartbeats 1600000 in
theorem implJoinT (a b : Int) (w : World) : Calls Tryd.prog 28 #[.int .i64 a, .int .i64 b] w fun e w' => e = .returned (.int .i64 (joinT a b)) ∧ w' = w := by
  obtain ⟨q1, hq1⟩ : ∃ q, (a == b) = q := ⟨_, rfl⟩
  obtain ⟨q2, hq2⟩ : ∃ q, (a == 126) = q := ⟨_, rfl⟩
  obtain ⟨q3, hq3⟩ : ∃ q, (b == 126) = q := ⟨_, rfl⟩
  have hr : Hid (joinT a b = if q1 then a else if q2 || q3 then 126 else 127) := by
    unfold Hid joinT
    rw [← hq1, ← hq2, ← hq3]
    simp
  rw [hr.out]
  clear hr
  cases q1 <;> cases q2 <;> cases q3
  all_goals
    go_enter Tryd.func28, Tryd.ntmps28
    go_wp2
    go_ret
    exact ⟨rfl, rfl⟩

set_option maxRecDepth 100000 in
set_option maxHeartbeats 1600000 in
theorem specJoinT (a b : Int) (w : World) : Calls Tryd.prog 24 #[.int .i64 a, .int .i64 b] w fun e w' => e = .returned (.int .i64 (joinT a b)) ∧ w' = w := by
  by_cases h1 : a = b
  · subst h1
    have e1 : (a == a) = true := by simp
    have hr : joinT a a = a := by simp [joinT]
    rw [hr]
    go_enter Tryd.func24, Tryd.ntmps24
    go_wp2
    go_ret
    exact ⟨rfl, rfl⟩
  · have e1 : (a == b) = false := by simpa using h1
    by_cases h2 : a = 126
    · subst h2
      have hr : joinT 126 b = 126 := by unfold joinT; rw [if_neg h1, if_pos (Or.inl rfl)]
      rw [hr]
      clear h1
      go_enter Tryd.func24, Tryd.ntmps24
      go_wp2
      go_ret
      exact ⟨rfl, rfl⟩
    · have e2 : (a != 126) = true := by simpa using h2
      by_cases h3 : b = 126
      · subst h3
        have hr : joinT a 126 = 126 := by unfold joinT; rw [if_neg h1, if_pos (Or.inr rfl)]
        rw [hr]
        clear h1 h2
        go_enter Tryd.func24, Tryd.ntmps24
        go_wp2
        go_ret
        exact ⟨rfl, rfl⟩
      · have e3 : (b != 126) = true := by simpa using h3
        have hr : joinT a b = 127 := by unfold joinT; rw [if_neg h1, if_neg (by omega)]
        rw [hr]
        clear h1 h2 h3
        go_enter Tryd.func24, Tryd.ntmps24
        go_wp2
        go_ret
        exact ⟨rfl, rfl⟩

set_option maxRecDepth 100000 in
set_option maxHeartbeats 3200000 in
theorem implJoin (B0 : Nat) (va vb : Value) (A B : List Int) (w : World) (hB0 : B0 ≤ w.heap.size) (ha : w.ownsRow B0 3 1 va A.length (iy A)) (hb : w.ownsRow B0 3 1 vb B.length (iy B)) (hap : Hid (∀ g, va.ownBlock = some g → vb.ownBlock ≠ some g)) (hA : A.length ≤ 1000) (hB : B.length ≤ 1000) :
    Calls Tryd.prog 26 #[va, vb] w fun e w' => ∃ v, e = .returned v ∧ w'.ownsRow B0 3 1 v (joinR A B).length (iy (joinR A B)) ∧ Below B0 w w' := by
  obtain ⟨i0, hi, hz0, hz1, hz2⟩ := info_parts Tryd.infoY
  obtain ⟨aa, ac, rfl⟩ := ownsRow_shape ha
  obtain ⟨ba, bc, rfl⟩ := ownsRow_shape hb
  obtain ⟨na, hna⟩ : ∃ n, A.length = n := ⟨_, rfl⟩
  obtain ⟨nb, hnb⟩ : ∃ n, B.length = n := ⟨_, rfl⟩
  rw [hna] at ha hA hap ⊢
  rw [hnb] at hb hB hap ⊢
  have HNA : Hid (A.length = na) := hna
  have HNB : Hid (B.length = nb) := hnb
  have HB : Hid (w.ownsRow B0 3 1 (.slice ba nb bc) nb (iy B)) := hb
  have HA : Hid (w.ownsRow B0 3 1 (.slice aa na ac) na (iy A)) := ha
  clear hna hnb ha hb
  go_enter Tryd.func26, Tryd.ntmps26
  go_wp2
  go_loopw [9] (fun i wr => ∃ m : Nat, m ≤ na ∧ m ≤ nb ∧ i = .int .i64 (m : Int) ∧ Hid (wr.ownsRow B0 3 1 (.slice aa na ac) na (iy (joinTo A B m))) ∧ Hid (wr.ownsRow B0 3 1 (.slice ba nb bc) nb (iy B)) ∧ Below B0 w wr) (fun i _ => nb - (intOf i).toNat)
  case atStart => exact ⟨0, by omega, by omega, rfl, by rw [joinTo_zero]; exact HA, HB, Below.refl _ _⟩
  case round =>
    clear HA HB
    obtain ⟨m, hm1, hm2, rfl, HA, HB, hnx⟩ := hrel
    have hsz := hnx.size
    by_cases hlt : m < nb
    · obtain ⟨gb, bc', e1, hbc⟩ := own_pos HB.out (by omega)
      simp at e1
      obtain ⟨rfl, rfl⟩ := e1
      have hmB : m < B.length := by rw [HNB.out]; exact hlt
      have d0 : wr.cell? ⟨gb, m, none⟩ = some (.int .i64 B[m]) := (HB.out.cellAt m (by omega)).trans (by simp [iy, hmB])
      obtain ⟨bm, hbm⟩ : ∃ x, B[m] = x := ⟨_, rfl⟩
      rw [hbm] at d0
      by_cases he : m = na
      · subst he
        have ee : ((m : Int) == (m : Int)) = true := by simp
        have HM : Hid (joinTo A B m ++ B.drop m = joinR A B) := by
          have := joinTo_more (A := A) (B := B) (by rw [HNA.out, HNB.out]; omega)
          rw [HNA.out] at this
          exact this
        have HJL : Hid ((joinR A B).length = nb) := by unfold Hid; rw [joinR_len, HNA.out, HNB.out]; omega
        have hnews : ∀ j u, (iy (B.drop m))[j]? = some u → wr.cell? ((⟨gb, m, none⟩ : Addr).add j) = some u := fun j u hu => by
          rw [Addr.add_lit]
          have hj : j < (iy (B.drop m)).length := by
            rcases Nat.lt_or_ge j (iy (B.drop m)).length with h | h
            · exact h
            · rw [List.getElem?_eq_none h] at hu; simp at hu
          rw [iy_len, List.length_drop, HNB.out] at hj
          rw [HB.out.cellAt (m + j) (by omega), ← hu]
          simp [iy]
        have hbl : ∀ k, (Value.slice aa m ac).ownBlock = some k → B0 ≤ k := ownsRow_block HA.out
        have HOA := HA.out
        go_wp2_with (at_builtin; refine wpList_append_own _ rfl _ _ 40 rfl B0 3 i0 (.int .i64 0) 1 8 Tryd.underlying40 hi hz0 hz1 hz2 rfl (by decide) _ _ _ rfl HOA ⟨gb, m, none⟩ (nb - m) _ (iy (B.drop m)) rfl (by rw [iy_len, List.length_drop, HNB.out]; omega) hnews (iy_one _) (by unfold maxLen; omega) (by omega) (by omega) ?_)
        intro v' w2 hown' hgrow' _
        rw [iy_app, HM.out] at hown'
        have hb2 : Below B0 w w2 := hnx.grown hgrow' (by omega) hbl
        clear hgrow' HOA
        go_wp2
        go_ret
        exact ⟨_, rfl, by rw [HJL.out]; first | exact hown' | simpa using hown', hb2⟩
      · have hmA : m < A.length := by rw [HNA.out]; omega
        obtain ⟨ga, ac', e1, hac⟩ := own_pos HA.out (by omega)
        simp at e1
        obtain ⟨rfl, rfl⟩ := e1
        have d1 : wr.cell? ⟨ga, m, none⟩ = some (.int .i64 A[m]) := (HA.out.cellAt m (by omega)).trans (by
          have := joinTo_get hmA hmB
          simp [iy, this])
        obtain ⟨am, ham⟩ : ∃ x, A[m] = x := ⟨_, rfl⟩
        rw [ham] at d1
        obtain ⟨cu, hcu, hgb⟩ := own_at HA.out (g := ga) rfl
        have f1 := free_of_block hcu m
        have en : ((m : Int) == (na : Int)) = false := by simp; omega
        have hm3 : m < na := by omega
        have HJ : Hid (iy ((joinTo A B m).set m (joinT am bm)) = iy (joinTo A B (m + 1))) := by
          unfold Hid; rw [← ham, ← hbm, joinTo_succ hmA hmB]
        have H := implJoinT am bm
        obtain ⟨jm, hjm⟩ : ∃ x, joinT am bm = x := ⟨_, rfl⟩
        rw [hjm] at H HJ
        clear hjm he
        go_wp2_with (go_at_call 28; refine (H _).mono ?_; rintro e w1 ⟨rfl, hw⟩; obtain rfl := hw.symm)
        go_roundw
        case rel =>
          refine ⟨m + 1, by omega, by omega, by go_num, ?_, ?_, hnx.setCell hgb _⟩
          · have := own_set HA.out m (.int .i64 jm)
            rw [iy_set, HJ.out] at this
            exact this
          · refine own_keep HB.out fun k hk => heap_setCell_other _ _ _ _ ?_
            intro e
            simp at e
            subst e
            exact hap.out k rfl hk
        case measure => simp [intOf]; omega
    · obtain rfl : m = nb := by omega
      have HR : Hid (joinTo A B m = joinR A B) := by unfold Hid; rw [← HNB.out, joinTo_end (by rw [HNA.out, HNB.out]; exact hm1)]
      have HRL : Hid ((joinR A B).length = na) := by unfold Hid; rw [joinR_len, HNA.out, HNB.out]; omega
      go_wp2
      go_ret
      refine ⟨_, rfl, ?_, hnx⟩
      rw [HRL.out, ← HR.out]
      exact HA.out

end Go.Proofs.YthoenaoanikppaaDoor
