/-
  FToInt: the program's side.
-/
import Derived.Test.YtnimlkobcginjaaFTiM
import Derived.Test.YtnimlkobcginjaaFRoundT
import Derived.Test.YtnimlkobcginjaaFTiB
import Derived.Test.YtnimlkobcginjaaQHide
namespace Go.Proofs.Ytnimlkobcginjaa
open Go.RowKit

theorem two_resT {fn : Func} {a b : Tmp} (h : fn.results = #[.tmp a, .tmp b]) (tmps : Array Value) (P : Program) (w : World) :
    (results fn tmps).run P w = .ok (.tuple #[tmps.getD a undef, tmps.getD b undef]) w := by
  simp [results, h]

theorem holds32 (neg sg : Bool) (V : Int) (h0 : 0 ≤ V) (h1 : V ≤ 18446744073709551615) (w : World) :
    Calls Try.prog 85 #[.int .i64 32, .bool neg, .int .u64 V, .bool sg] w fun x w' => x = .returned (.bool (hol 2147483648 4294967296 neg V sg)) ∧ w' = w := by
  have C := cut32T V
  cases sg
  · cases neg
    · go_enter Try.func85, Try.ntmps85
      go_wp2_with fail
      refine (C _).mono ?_
      rintro x w1 ⟨rfl, hw1⟩
      obtain rfl := hw1
      go_wp2
      go_ret
      refine ⟨congrArg (fun z => Ending.returned (.bool z)) ?_, rfl⟩
      show _ = decide (V < 4294967296)
      by_cases h : V < 4294967296
      · first | (simp [h]; done) | (simp [h]; omega)
      · first | (simp [h]; done) | (simp [h]; omega) | omega
    · go_enter Try.func85, Try.ntmps85
      go_wp2
      go_ret
      exact ⟨rfl, rfl⟩
  · cases neg
    · go_enter Try.func85, Try.ntmps85
      go_wp2
      go_ret
      exact ⟨rfl, rfl⟩
    · go_enter Try.func85, Try.ntmps85
      go_wp2
      go_ret
      exact ⟨rfl, rfl⟩

theorem holds64 (neg sg : Bool) (V : Int) (h0 : 0 ≤ V) (h1 : V ≤ 18446744073709551615) (w : World) :
    Calls Try.prog 85 #[.int .i64 64, .bool neg, .int .u64 V, .bool sg] w fun x w' => x = .returned (.bool (hol 9223372036854775808 18446744073709551616 neg V sg)) ∧ w' = w := by
  have C := cut64T V h0 h1
  cases sg
  · cases neg
    · go_enter Try.func85, Try.ntmps85
      go_wp2_with fail
      refine (C _).mono ?_
      rintro x w1 ⟨rfl, hw1⟩
      obtain rfl := hw1
      go_wp2
      go_ret
      refine ⟨congrArg (fun z => Ending.returned (.bool z)) ?_, rfl⟩
      show _ = decide (V < 18446744073709551616)
      by_cases h : V < 18446744073709551616
      · first | (simp [h]; done) | (simp [h]; omega)
      · first | (simp [h]; done) | (simp [h]; omega) | omega
    · go_enter Try.func85, Try.ntmps85
      go_wp2
      go_ret
      exact ⟨rfl, rfl⟩
  · cases neg
    · go_enter Try.func85, Try.ntmps85
      go_wp2
      go_ret
      exact ⟨rfl, rfl⟩
    · go_enter Try.func85, Try.ntmps85
      go_wp2
      go_ret
      exact ⟨rfl, rfl⟩

theorem sizeNo (c m e : Int) (s : Bool) (hc : (c != 0) = true) (w : World) :
    Calls Try.prog 84 #[.agg #[.int .i64 c, .bool s, .int .u64 m, .int .i64 e]] w fun x w' => x = .returned (.tuple #[.int .u64 0, .bool false]) ∧ Below w.heap.size w w' := by
  obtain ⟨W, hW⟩ : ∃ W, w.alloc (.cells #[.int .i64 c, .bool s, .int .u64 m, .int .i64 e] 88) = W := ⟨_, rfl⟩
  have H : Hid (Below w.heap.size w W) := by unfold Hid; rw [← hW]; (repeat (first | refine Below.alloc ?_ (by first | (simp; done) | (simp; omega)) _ | refine Below.setCell ?_ (by first | (simp; done) | (simp; omega)) _ | refine bel_dN ?_ _ | refine Below.drew ?_ | exact Below.refl _ _))
  have hs : W.heap.size = w.heap.size + 1 := by rw [← hW]; simp
  obtain ⟨g, hg⟩ : ∃ g, w.heap.size = g := ⟨_, rfl⟩
  have k0 : ∀ w, Keeps W w → w.cell? ⟨g, 0, none⟩ = some (.int .i64 c) := fun w h => h.cell (by omega) (by rw [← hW, ← hg]; simp)
  go_enter Try.func84, Try.ntmps84
  go_wp2_with fail
  clear hW
  refine region_w (C := Keeps W) (by kernel_rfl) (by kernel_rfl) (Keeps.drew W) ?_
  (iterate 4
    (apply wq_go _ (by rfl)
     · intro wq hq
       go_simp
       first
         | exact rfl
     simp only [Act.put, List.setIfInBounds_toArray, List.set_cons_succ, List.set_cons_zero]))
  (iterate 7 (refine wq_no (by rfl) ?_; simp only [Act.put, List.setIfInBounds_toArray, List.set_cons_succ, List.set_cons_zero]))
  (iterate 2
    (apply wq_go _ (by rfl)
     · intro wq hq
       go_simp
       first
         | exact rfl
     simp only [Act.put, List.setIfInBounds_toArray, List.set_cons_succ, List.set_cons_zero]))
  refine wq_nil ?_
  intro w1 hk1
  have hb := hk1.below
  clear k0 hk1
  go_wp2
  refine bodyPost_ret (two_resT Try.results84 _ _ _) rfl ⟨rfl, bel_step H.out hb⟩

set_option maxHeartbeats 1000000 in
theorem sizeYes (m L : Nat) (e : Int) (s : Bool) (LN : Hid (∀ w, Calls Try.prog 87 #[.int .u64 (m : Int)] w fun e w' => e = .returned (.int .i64 (L : Int)) ∧ w' = w)) (hL : L ≤ 64) (hm : m < 1152921504606846976) (e0 : -500 ≤ e) (e1 : e ≤ 500)
    (hr : (L : Int) + e ≤ 64 → 0 ≤ e → m * 2 ^ e.toNat < 18446744073709551616) (w : World) :
    Calls Try.prog 84 #[.agg #[.int .i64 0, .bool s, .int .u64 (m : Int), .int .i64 e]] w fun x w' => x = .returned (if (L : Int) + e ≤ 64 then .tuple #[.int .u64 ((sizeOf m e : Nat) : Int), .bool true] else .tuple #[.int .u64 0, .bool false]) ∧ Below w.heap.size w w' := by
  obtain ⟨W, hW⟩ : ∃ W, w.alloc (.cells #[.int .i64 0, .bool s, .int .u64 (m : Int), .int .i64 e] 88) = W := ⟨_, rfl⟩
  have H : Hid (Below w.heap.size w W) := by unfold Hid; rw [← hW]; (repeat (first | refine Below.alloc ?_ (by first | (simp; done) | (simp; omega)) _ | refine Below.setCell ?_ (by first | (simp; done) | (simp; omega)) _ | refine bel_dN ?_ _ | refine Below.drew ?_ | exact Below.refl _ _))
  have hs : W.heap.size = w.heap.size + 1 := by rw [← hW]; simp
  obtain ⟨g, hg⟩ : ∃ g, w.heap.size = g := ⟨_, rfl⟩
  have k0 : ∀ w, Keeps W w → w.cell? ⟨g, 0, none⟩ = some (.int .i64 0) := fun w h => h.cell (by omega) (by rw [← hW, ← hg]; simp)
  have k1 : ∀ w, Keeps W w → w.cell? ⟨g, 1, none⟩ = some (.bool s) := fun w h => h.cell (by omega) (by rw [← hW, ← hg]; simp)
  have k2 : ∀ w, Keeps W w → w.cell? ⟨g, 2, none⟩ = some (.int .u64 (m : Int)) := fun w h => h.cell (by omega) (by rw [← hW, ← hg]; simp)
  have k3 : ∀ w, Keeps W w → w.cell? ⟨g, 3, none⟩ = some (.int .i64 e) := fun w h => h.cell (by omega) (by rw [← hW, ← hg]; simp)
  have v1 : IntKind.i64.wrap ((L : Int) + e) = (L : Int) + e := by rw [IntKind.wrap_i64]; omega
  by_cases hle : (L : Int) + e ≤ 64
  · rw [if_pos hle]
    have hgt : ¬ 64 < (L : Int) + e := by omega
    have hgt' : decide (64 < (L : Int) + e) = false := by simpa using hle
    by_cases he : 0 ≤ e
    · have hV : sizeOf m e = m * 2 ^ e.toNat := by unfold sizeOf; rw [if_pos he]
      have hr' := hr hle he
      obtain ⟨T, rfl⟩ := Int.eq_ofNat_of_zero_le he
      rw [hV]
      simp only [Int.toNat_natCast] at hr' ⊢
      have v2 : IntKind.u64.wrap ((m : Int) * 2 ^ T) = ((m * 2 ^ T : Nat) : Int) := by
        rw [show (m : Int) * 2 ^ T = ((m * 2 ^ T : Nat) : Int) by simp, IntKind.wrap_u64]; omega
      have v3 : min T 64 = T ∨ m = 0 := by
        rcases Nat.lt_or_ge T 65 with h | h
        · exact Or.inl (by omega)
        · refine Or.inr ?_
          rcases Nat.eq_zero_or_pos m with h2 | h2
          · exact h2
          · have h3 : 2 ^ 64 ≤ 2 ^ T := Nat.pow_le_pow_right (by omega) (by omega)
            have h4 : 2 ^ T ≤ m * 2 ^ T := Nat.le_mul_of_pos_left _ h2
            omega
      have v4 : IntKind.u64.wrap ((m : Int) * 2 ^ (min T 64)) = ((m * 2 ^ T : Nat) : Int) := by
        rcases v3 with h | h
        · rw [h]; exact v2
        · subst h; simp; rw [IntKind.wrap_u64]; omega
      generalize m * 2 ^ T = V at *
      clear hr hr' v3 hV hm hle e0 e1 hL
      go_enter Try.func84, Try.ntmps84
      go_wp2_with fail
      clear hW
      refine region_w (C := Keeps W) (by kernel_rfl) (by kernel_rfl) (Keeps.drew W) ?_
      (iterate 13
        (apply wq_go _ (by rfl)
         · intro wq hq
           go_simp
           first
             | (go_at_call 87; exact qsame hq (LN.out _))
             | exact rfl
         simp only [Act.put, List.setIfInBounds_toArray, List.set_cons_succ, List.set_cons_zero]))
      refine wq_nil ?_
      intro w1 hk1
      have hb := hk1.below
      have q2 := k2 _ hk1
      have q3 := k3 _ hk1
      clear k0 k1 k2 k3 hk1
      go_wp2
      refine bodyPost_ret (two_resT Try.results84 _ _ _) rfl ⟨rfl, bel_step H.out hb⟩
    · obtain ⟨T, hT⟩ : ∃ T : Nat, e = -(T : Int) := ⟨(-e).toNat, by omega⟩
      have hV : sizeOf m e = m / 2 ^ T := by unfold sizeOf; rw [if_neg he, show (-e).toNat = T by omega]
      have WB : Hid (∀ w, Calls Try.prog 80 #[.agg #[.int .i64 0, .bool s, .int .u64 (m : Int), .int .i64 e], .int .i64 3] w fun x w' => x = .returned (.int .u64 ((m / 2 ^ T : Nat) : Int)) ∧ Below w.heap.size w w') := by
        intro w
        have h := wholeByShr 3 0 s m T e hT (by omega) hm (Or.inl rfl) w
        rw [show wh 3 s m T = m / 2 ^ T by unfold wh; rw [if_neg (by decide), if_neg (by simp)]] at h
        exact h
      rw [hV]
      generalize m / 2 ^ T = V at *
      clear hr hV hm hle e0 e1 hL hT
      go_enter Try.func84, Try.ntmps84
      go_wp2_with fail
      clear hW
      refine region_w (C := Keeps W) (by kernel_rfl) (by kernel_rfl) (Keeps.drew W) ?_
      (iterate 13
        (apply wq_go _ (by rfl)
         · intro wq hq
           go_simp
           first
             | (go_at_call 87; exact qsame hq (LN.out _))
             | exact rfl
         simp only [Act.put, List.setIfInBounds_toArray, List.set_cons_succ, List.set_cons_zero]))
      refine wq_nil ?_
      intro w1 hk1
      have hb := hk1.below
      have q0 := k0 _ hk1
      have q1 := k1 _ hk1
      have q2 := k2 _ hk1
      have q3 := k3 _ hk1
      clear k0 k1 k2 k3 hk1
      go_wp2_with fail
      refine (WB.out _).mono ?_
      rintro x w2 ⟨rfl, B2⟩
      go_wp2
      refine bodyPost_ret (two_resT Try.results84 _ _ _) rfl ⟨rfl, bel_step (bel_step H.out hb) B2⟩
  · rw [if_neg hle]
    have hgt : 64 < (L : Int) + e := by omega
    have hgt' : decide (64 < (L : Int) + e) = true := by simpa using hgt
    clear hr hm hle e0 e1 hL
    go_enter Try.func84, Try.ntmps84
    go_wp2_with fail
    clear hW
    refine region_w (C := Keeps W) (by kernel_rfl) (by kernel_rfl) (Keeps.drew W) ?_
    (iterate 13
      (apply wq_go _ (by rfl)
       · intro wq hq
         go_simp
         first
           | (go_at_call 87; exact qsame hq (LN.out _))
           | exact rfl
       simp only [Act.put, List.setIfInBounds_toArray, List.set_cons_succ, List.set_cons_zero]))
    refine wq_nil ?_
    intro w1 hk1
    have hb := hk1.below
    clear k0 k1 k2 k3 hk1
    go_wp2
    refine bodyPost_ret (two_resT Try.results84 _ _ _) rfl ⟨rfl, bel_step H.out hb⟩

end Go.Proofs.Ytnimlkobcginjaa
