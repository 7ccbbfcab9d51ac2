/-
  RoundFloat, both sides, and its law.
-/
import Derived.Test.YteimfjiaifbloaaFRndS
import Derived.Test.YteimfjiaifbloaaFParts
import Derived.Test.YteimfjiaifbloaaQHide
namespace Go.Proofs.Yteimfjiaifbloaa
open Go.RowKit

theorem l1InYes (x lo hi : Int) (h1 : lo ≤ x) (h2 : x ≤ hi) (w : World) : Calls Try.prog 25 #[.int .i64 x, .int .i64 lo, .int .i64 hi] w fun e w' => e = .returned (.bool true) ∧ w' = w := by
  go_enter Try.func25, Try.ntmps25
  go_wp2
  go_ret
  exact ⟨rfl, rfl⟩
theorem l1InLo (x lo hi : Int) (h1 : ¬ lo ≤ x) (w : World) : Calls Try.prog 25 #[.int .i64 x, .int .i64 lo, .int .i64 hi] w fun e w' => e = .returned (.bool false) ∧ w' = w := by
  go_enter Try.func25, Try.ntmps25
  go_wp2
  go_ret
  exact ⟨rfl, rfl⟩
theorem l1InHi (x lo hi : Int) (h1 : lo ≤ x) (h2 : ¬ x ≤ hi) (w : World) : Calls Try.prog 25 #[.int .i64 x, .int .i64 lo, .int .i64 hi] w fun e w' => e = .returned (.bool false) ∧ w' = w := by
  go_enter Try.func25, Try.ntmps25
  go_wp2
  go_ret
  exact ⟨rfl, rfl⟩
theorem l1InNo (x lo hi : Int) (h : ¬ (lo ≤ x ∧ x ≤ hi)) (w : World) : Calls Try.prog 25 #[.int .i64 x, .int .i64 lo, .int .i64 hi] w fun e w' => e = .returned (.bool false) ∧ w' = w := by
  by_cases h1 : lo ≤ x
  · exact l1InHi x lo hi h1 (fun h2 => h ⟨h1, h2⟩) w
  · exact l1InLo x lo hi h1 w

set_option maxHeartbeats 1000000 in
theorem rfSpecPlain16 (neg : Bool) (m : Nat) (e : Int) (more : Bool) (hmm : m < 18446744073709551616) (h1 : m < 1152921504606846976) (h2 : -1000 ≤ e) (h3 : e ≤ 1000) (h4 : more = false) (w : World) :
    Calls Try.prog 11 #[.int .i64 16, .bool neg, .int .u64 (m : Int), .int .i64 e, .bool more] w fun x w' => x = .returned (.tuple #[.int .u32 (neg.toNat * 32768 + ((min (toldOf 10 (-24) m e more) 31744 : Nat) : Int)), .bool true]) ∧ Below w.heap.size w w' := by
  have R := specRound16 neg m h1 e (by omega) (by omega) more
  generalize (neg.toNat : Int) * 32768 + ((min (toldOf 10 (-24) m e more) 31744 : Nat) : Int) = r at *
  have LN := l4LenB m hmm
  have IN := l1InYes e (-1000) 1000 h2 h3
  generalize Lib.bitLen m = n at *
  obtain ⟨M, hM⟩ : ∃ M : Int, (m : Int) = M := ⟨_, rfl⟩
  rw [hM] at R LN ⊢
  have c1 : decide (1152921504606846976 ≤ M) = false := by simp; omega
  subst h4
  clear h1 h2 h3 hM
  have v4 : IntKind.i64.wrap 10 = 10 := by rw [IntKind.wrap_i64]; omega
  have v5 : IntKind.i64.wrap (10 + 3) = 10 + 3 := by rw [IntKind.wrap_i64]; omega
  have v6 : IntKind.i64.wrap 13 = 13 := by rw [IntKind.wrap_i64]; omega
  go_enter Try.func11, Try.ntmps11
  go_wp2_with fail
  refine (l4Kind16 _).mono ?_
  rintro e' w1 ⟨rfl, B1⟩
  go_wp2_with fail
  have k0 : ∀ w, Keeps (w1.alloc (.cells #[.int .u64 5, .int .u64 10] 34)) w → w.cell? ⟨w1.heap.size, 0, none⟩ = some (.int .u64 5) := fun w h => h.cell (by simp) (by simp)
  have k1 : ∀ w, Keeps (w1.alloc (.cells #[.int .u64 5, .int .u64 10] 34)) w → w.cell? ⟨w1.heap.size, 1, none⟩ = some (.int .u64 10) := fun w h => h.cell (by simp) (by simp)
  refine region_w (C := Keeps (w1.alloc (.cells #[.int .u64 5, .int .u64 10] 34))) (by kernel_rfl) (by kernel_rfl) (Keeps.drew _) ?_
  (iterate 14
    (apply wq_go _ (by rfl)
     · intro wq hq
       go_simp
       first
         | (go_at_call 25; exact qsame hq (IN _))
         | (go_at_call 26; exact qsame hq (LN _))
         | exact rfl
     simp only [Act.put, List.setIfInBounds_toArray, List.set_cons_succ, List.set_cons_zero]))
  (iterate 7 (refine wq_no (by rfl) ?_; simp only [Act.put, List.setIfInBounds_toArray, List.set_cons_succ, List.set_cons_zero]))
  (iterate 2
    (apply wq_go _ (by rfl)
     · intro wq hq
       go_simp
       first
         | (go_at_call 25; exact qsame hq (IN _))
         | (go_at_call 26; exact qsame hq (LN _))
         | exact rfl
     simp only [Act.put, List.setIfInBounds_toArray, List.set_cons_succ, List.set_cons_zero]))
  refine wq_nil ?_
  intro w2 hk
  have q0 := k0 _ hk
  have q1 := k1 _ hk
  have hb := hk.below
  clear k0 k1 v4 v5 v6 hk
  go_wp2_with fail
  refine (R _).mono ?_
  rintro e' w3 ⟨rfl, B3⟩
  go_wp2
  go_ret2
  refine ⟨rfl, ?_⟩
  ((repeat (first | refine bel_alloc ?_ _ | refine bel_dN ?_ _ | refine Below.drew ?_ | refine Below.setCell ?_ (by first | (simp; done) | (simp; omega)) _)); refine bel_step ?_ B3; (repeat (first | refine bel_alloc ?_ _ | refine bel_dN ?_ _ | refine Below.drew ?_ | refine Below.setCell ?_ (by first | (simp; done) | (simp; omega)) _)); refine bel_step ?_ hb; (repeat (first | refine bel_alloc ?_ _ | refine bel_dN ?_ _ | refine Below.drew ?_ | refine Below.setCell ?_ (by first | (simp; done) | (simp; omega)) _)); refine bel_step ?_ B1; (repeat (first | refine bel_alloc ?_ _ | refine bel_dN ?_ _ | refine Below.drew ?_ | refine Below.setCell ?_ (by first | (simp; done) | (simp; omega)) _)); exact Below.refl _ _)

set_option maxHeartbeats 1000000 in
theorem rfSpecPlain32 (neg : Bool) (m : Nat) (e : Int) (more : Bool) (hmm : m < 18446744073709551616) (h1 : m < 1152921504606846976) (h2 : -1000 ≤ e) (h3 : e ≤ 1000) (h4 : more = false) (w : World) :
    Calls Try.prog 11 #[.int .i64 32, .bool neg, .int .u64 (m : Int), .int .i64 e, .bool more] w fun x w' => x = .returned (.tuple #[.int .u32 (neg.toNat * 2147483648 + ((min (toldOf 23 (-149) m e more) 2139095040 : Nat) : Int)), .bool true]) ∧ Below w.heap.size w w' := by
  have R := specRound32 neg m h1 e (by omega) (by omega) more
  generalize (neg.toNat : Int) * 2147483648 + ((min (toldOf 23 (-149) m e more) 2139095040 : Nat) : Int) = r at *
  have LN := l4LenB m hmm
  have IN := l1InYes e (-1000) 1000 h2 h3
  generalize Lib.bitLen m = n at *
  obtain ⟨M, hM⟩ : ∃ M : Int, (m : Int) = M := ⟨_, rfl⟩
  rw [hM] at R LN ⊢
  have c1 : decide (1152921504606846976 ≤ M) = false := by simp; omega
  subst h4
  clear h1 h2 h3 hM
  have v4 : IntKind.i64.wrap 23 = 23 := by rw [IntKind.wrap_i64]; omega
  have v5 : IntKind.i64.wrap (23 + 3) = 23 + 3 := by rw [IntKind.wrap_i64]; omega
  have v6 : IntKind.i64.wrap 26 = 26 := by rw [IntKind.wrap_i64]; omega
  go_enter Try.func11, Try.ntmps11
  go_wp2_with fail
  refine (l4Kind32 _).mono ?_
  rintro e' w1 ⟨rfl, B1⟩
  go_wp2_with fail
  have k0 : ∀ w, Keeps (w1.alloc (.cells #[.int .u64 8, .int .u64 23] 34)) w → w.cell? ⟨w1.heap.size, 0, none⟩ = some (.int .u64 8) := fun w h => h.cell (by simp) (by simp)
  have k1 : ∀ w, Keeps (w1.alloc (.cells #[.int .u64 8, .int .u64 23] 34)) w → w.cell? ⟨w1.heap.size, 1, none⟩ = some (.int .u64 23) := fun w h => h.cell (by simp) (by simp)
  refine region_w (C := Keeps (w1.alloc (.cells #[.int .u64 8, .int .u64 23] 34))) (by kernel_rfl) (by kernel_rfl) (Keeps.drew _) ?_
  (iterate 14
    (apply wq_go _ (by rfl)
     · intro wq hq
       go_simp
       first
         | (go_at_call 25; exact qsame hq (IN _))
         | (go_at_call 26; exact qsame hq (LN _))
         | exact rfl
     simp only [Act.put, List.setIfInBounds_toArray, List.set_cons_succ, List.set_cons_zero]))
  (iterate 7 (refine wq_no (by rfl) ?_; simp only [Act.put, List.setIfInBounds_toArray, List.set_cons_succ, List.set_cons_zero]))
  (iterate 2
    (apply wq_go _ (by rfl)
     · intro wq hq
       go_simp
       first
         | (go_at_call 25; exact qsame hq (IN _))
         | (go_at_call 26; exact qsame hq (LN _))
         | exact rfl
     simp only [Act.put, List.setIfInBounds_toArray, List.set_cons_succ, List.set_cons_zero]))
  refine wq_nil ?_
  intro w2 hk
  have q0 := k0 _ hk
  have q1 := k1 _ hk
  have hb := hk.below
  clear k0 k1 v4 v5 v6 hk
  go_wp2_with fail
  refine (R _).mono ?_
  rintro e' w3 ⟨rfl, B3⟩
  go_wp2
  go_ret2
  refine ⟨rfl, ?_⟩
  ((repeat (first | refine bel_alloc ?_ _ | refine bel_dN ?_ _ | refine Below.drew ?_ | refine Below.setCell ?_ (by first | (simp; done) | (simp; omega)) _)); refine bel_step ?_ B3; (repeat (first | refine bel_alloc ?_ _ | refine bel_dN ?_ _ | refine Below.drew ?_ | refine Below.setCell ?_ (by first | (simp; done) | (simp; omega)) _)); refine bel_step ?_ hb; (repeat (first | refine bel_alloc ?_ _ | refine bel_dN ?_ _ | refine Below.drew ?_ | refine Below.setCell ?_ (by first | (simp; done) | (simp; omega)) _)); refine bel_step ?_ B1; (repeat (first | refine bel_alloc ?_ _ | refine bel_dN ?_ _ | refine Below.drew ?_ | refine Below.setCell ?_ (by first | (simp; done) | (simp; omega)) _)); exact Below.refl _ _)

set_option maxHeartbeats 1000000 in
theorem rfSpecMore16 (neg : Bool) (m : Nat) (e : Int) (more : Bool) (hmm : m < 18446744073709551616) (h1 : m < 1152921504606846976) (h2 : -1000 ≤ e) (h3 : e ≤ 1000) (h4 : more = true) (h5 : 13 ≤ Lib.bitLen m) (w : World) :
    Calls Try.prog 11 #[.int .i64 16, .bool neg, .int .u64 (m : Int), .int .i64 e, .bool more] w fun x w' => x = .returned (.tuple #[.int .u32 (neg.toNat * 32768 + ((min (toldOf 10 (-24) m e more) 31744 : Nat) : Int)), .bool true]) ∧ Below w.heap.size w w' := by
  have R := specRound16 neg m h1 e (by omega) (by omega) more
  generalize (neg.toNat : Int) * 32768 + ((min (toldOf 10 (-24) m e more) 31744 : Nat) : Int) = r at *
  have LN := l4LenB m hmm
  have IN := l1InYes e (-1000) 1000 h2 h3
  generalize Lib.bitLen m = n at *
  obtain ⟨M, hM⟩ : ∃ M : Int, (m : Int) = M := ⟨_, rfl⟩
  rw [hM] at R LN ⊢
  have c1 : decide (1152921504606846976 ≤ M) = false := by simp; omega
  have c2 : decide ((n : Int) < 13) = false := by simp; omega
  subst h4
  clear h1 h2 h3 h5 hM
  have v4 : IntKind.i64.wrap 10 = 10 := by rw [IntKind.wrap_i64]; omega
  have v5 : IntKind.i64.wrap (10 + 3) = 10 + 3 := by rw [IntKind.wrap_i64]; omega
  have v6 : IntKind.i64.wrap 13 = 13 := by rw [IntKind.wrap_i64]; omega
  go_enter Try.func11, Try.ntmps11
  go_wp2_with fail
  refine (l4Kind16 _).mono ?_
  rintro e' w1 ⟨rfl, B1⟩
  go_wp2_with fail
  have k0 : ∀ w, Keeps (w1.alloc (.cells #[.int .u64 5, .int .u64 10] 34)) w → w.cell? ⟨w1.heap.size, 0, none⟩ = some (.int .u64 5) := fun w h => h.cell (by simp) (by simp)
  have k1 : ∀ w, Keeps (w1.alloc (.cells #[.int .u64 5, .int .u64 10] 34)) w → w.cell? ⟨w1.heap.size, 1, none⟩ = some (.int .u64 10) := fun w h => h.cell (by simp) (by simp)
  refine region_w (C := Keeps (w1.alloc (.cells #[.int .u64 5, .int .u64 10] 34))) (by kernel_rfl) (by kernel_rfl) (Keeps.drew _) ?_
  (iterate 23
    (apply wq_go _ (by rfl)
     · intro wq hq
       go_simp
       first
         | (go_at_call 25; exact qsame hq (IN _))
         | (go_at_call 26; exact qsame hq (LN _))
         | exact rfl
     simp only [Act.put, List.setIfInBounds_toArray, List.set_cons_succ, List.set_cons_zero]))
  refine wq_nil ?_
  intro w2 hk
  have q0 := k0 _ hk
  have q1 := k1 _ hk
  have hb := hk.below
  clear k0 k1 v4 v5 v6 hk
  go_wp2_with fail
  refine (R _).mono ?_
  rintro e' w3 ⟨rfl, B3⟩
  go_wp2
  go_ret2
  refine ⟨rfl, ?_⟩
  ((repeat (first | refine bel_alloc ?_ _ | refine bel_dN ?_ _ | refine Below.drew ?_ | refine Below.setCell ?_ (by first | (simp; done) | (simp; omega)) _)); refine bel_step ?_ B3; (repeat (first | refine bel_alloc ?_ _ | refine bel_dN ?_ _ | refine Below.drew ?_ | refine Below.setCell ?_ (by first | (simp; done) | (simp; omega)) _)); refine bel_step ?_ hb; (repeat (first | refine bel_alloc ?_ _ | refine bel_dN ?_ _ | refine Below.drew ?_ | refine Below.setCell ?_ (by first | (simp; done) | (simp; omega)) _)); refine bel_step ?_ B1; (repeat (first | refine bel_alloc ?_ _ | refine bel_dN ?_ _ | refine Below.drew ?_ | refine Below.setCell ?_ (by first | (simp; done) | (simp; omega)) _)); exact Below.refl _ _)

set_option maxHeartbeats 1000000 in
theorem rfSpecMore32 (neg : Bool) (m : Nat) (e : Int) (more : Bool) (hmm : m < 18446744073709551616) (h1 : m < 1152921504606846976) (h2 : -1000 ≤ e) (h3 : e ≤ 1000) (h4 : more = true) (h5 : 26 ≤ Lib.bitLen m) (w : World) :
    Calls Try.prog 11 #[.int .i64 32, .bool neg, .int .u64 (m : Int), .int .i64 e, .bool more] w fun x w' => x = .returned (.tuple #[.int .u32 (neg.toNat * 2147483648 + ((min (toldOf 23 (-149) m e more) 2139095040 : Nat) : Int)), .bool true]) ∧ Below w.heap.size w w' := by
  have R := specRound32 neg m h1 e (by omega) (by omega) more
  generalize (neg.toNat : Int) * 2147483648 + ((min (toldOf 23 (-149) m e more) 2139095040 : Nat) : Int) = r at *
  have LN := l4LenB m hmm
  have IN := l1InYes e (-1000) 1000 h2 h3
  generalize Lib.bitLen m = n at *
  obtain ⟨M, hM⟩ : ∃ M : Int, (m : Int) = M := ⟨_, rfl⟩
  rw [hM] at R LN ⊢
  have c1 : decide (1152921504606846976 ≤ M) = false := by simp; omega
  have c2 : decide ((n : Int) < 26) = false := by simp; omega
  subst h4
  clear h1 h2 h3 h5 hM
  have v4 : IntKind.i64.wrap 23 = 23 := by rw [IntKind.wrap_i64]; omega
  have v5 : IntKind.i64.wrap (23 + 3) = 23 + 3 := by rw [IntKind.wrap_i64]; omega
  have v6 : IntKind.i64.wrap 26 = 26 := by rw [IntKind.wrap_i64]; omega
  go_enter Try.func11, Try.ntmps11
  go_wp2_with fail
  refine (l4Kind32 _).mono ?_
  rintro e' w1 ⟨rfl, B1⟩
  go_wp2_with fail
  have k0 : ∀ w, Keeps (w1.alloc (.cells #[.int .u64 8, .int .u64 23] 34)) w → w.cell? ⟨w1.heap.size, 0, none⟩ = some (.int .u64 8) := fun w h => h.cell (by simp) (by simp)
  have k1 : ∀ w, Keeps (w1.alloc (.cells #[.int .u64 8, .int .u64 23] 34)) w → w.cell? ⟨w1.heap.size, 1, none⟩ = some (.int .u64 23) := fun w h => h.cell (by simp) (by simp)
  refine region_w (C := Keeps (w1.alloc (.cells #[.int .u64 8, .int .u64 23] 34))) (by kernel_rfl) (by kernel_rfl) (Keeps.drew _) ?_
  (iterate 23
    (apply wq_go _ (by rfl)
     · intro wq hq
       go_simp
       first
         | (go_at_call 25; exact qsame hq (IN _))
         | (go_at_call 26; exact qsame hq (LN _))
         | exact rfl
     simp only [Act.put, List.setIfInBounds_toArray, List.set_cons_succ, List.set_cons_zero]))
  refine wq_nil ?_
  intro w2 hk
  have q0 := k0 _ hk
  have q1 := k1 _ hk
  have hb := hk.below
  clear k0 k1 v4 v5 v6 hk
  go_wp2_with fail
  refine (R _).mono ?_
  rintro e' w3 ⟨rfl, B3⟩
  go_wp2
  go_ret2
  refine ⟨rfl, ?_⟩
  ((repeat (first | refine bel_alloc ?_ _ | refine bel_dN ?_ _ | refine Below.drew ?_ | refine Below.setCell ?_ (by first | (simp; done) | (simp; omega)) _)); refine bel_step ?_ B3; (repeat (first | refine bel_alloc ?_ _ | refine bel_dN ?_ _ | refine Below.drew ?_ | refine Below.setCell ?_ (by first | (simp; done) | (simp; omega)) _)); refine bel_step ?_ hb; (repeat (first | refine bel_alloc ?_ _ | refine bel_dN ?_ _ | refine Below.drew ?_ | refine Below.setCell ?_ (by first | (simp; done) | (simp; omega)) _)); refine bel_step ?_ B1; (repeat (first | refine bel_alloc ?_ _ | refine bel_dN ?_ _ | refine Below.drew ?_ | refine Below.setCell ?_ (by first | (simp; done) | (simp; omega)) _)); exact Below.refl _ _)

set_option maxHeartbeats 1000000 in
theorem rfSpecShort16 (neg : Bool) (m : Nat) (e : Int) (more : Bool) (hmm : m < 18446744073709551616) (h1 : m < 1152921504606846976) (h2 : -1000 ≤ e) (h3 : e ≤ 1000) (h4 : more = true) (h5 : ¬ 13 ≤ Lib.bitLen m) (w : World) :
    Calls Try.prog 11 #[.int .i64 16, .bool neg, .int .u64 (m : Int), .int .i64 e, .bool more] w fun x w' => x = .returned (.tuple #[.int .u32 0, .bool false]) ∧ Below w.heap.size w w' := by
  have LN := l4LenB m hmm
  have IN := l1InYes e (-1000) 1000 h2 h3
  generalize Lib.bitLen m = n at *
  obtain ⟨M, hM⟩ : ∃ M : Int, (m : Int) = M := ⟨_, rfl⟩
  rw [hM] at LN ⊢
  have c1 : decide (1152921504606846976 ≤ M) = false := by simp; omega
  have c2 : decide ((n : Int) < 13) = true := by simp; omega
  subst h4
  clear h1 h2 h3 h5 hM
  have v4 : IntKind.i64.wrap 10 = 10 := by rw [IntKind.wrap_i64]; omega
  have v5 : IntKind.i64.wrap (10 + 3) = 10 + 3 := by rw [IntKind.wrap_i64]; omega
  have v6 : IntKind.i64.wrap 13 = 13 := by rw [IntKind.wrap_i64]; omega
  go_enter Try.func11, Try.ntmps11
  go_wp2_with fail
  refine (l4Kind16 _).mono ?_
  rintro e' w1 ⟨rfl, B1⟩
  go_wp2_with fail
  have k0 : ∀ w, Keeps (w1.alloc (.cells #[.int .u64 5, .int .u64 10] 34)) w → w.cell? ⟨w1.heap.size, 0, none⟩ = some (.int .u64 5) := fun w h => h.cell (by simp) (by simp)
  have k1 : ∀ w, Keeps (w1.alloc (.cells #[.int .u64 5, .int .u64 10] 34)) w → w.cell? ⟨w1.heap.size, 1, none⟩ = some (.int .u64 10) := fun w h => h.cell (by simp) (by simp)
  refine region_w (C := Keeps (w1.alloc (.cells #[.int .u64 5, .int .u64 10] 34))) (by kernel_rfl) (by kernel_rfl) (Keeps.drew _) ?_
  (iterate 23
    (apply wq_go _ (by rfl)
     · intro wq hq
       go_simp
       first
         | (go_at_call 25; exact qsame hq (IN _))
         | (go_at_call 26; exact qsame hq (LN _))
         | exact rfl
     simp only [Act.put, List.setIfInBounds_toArray, List.set_cons_succ, List.set_cons_zero]))
  refine wq_nil ?_
  intro w2 hk
  have q0 := k0 _ hk
  have q1 := k1 _ hk
  have hb := hk.below
  clear k0 k1 v4 v5 v6 hk
  go_wp2
  go_ret2
  refine ⟨rfl, ?_⟩
  ((repeat (first | refine bel_alloc ?_ _ | refine bel_dN ?_ _ | refine Below.drew ?_ | refine Below.setCell ?_ (by first | (simp; done) | (simp; omega)) _)); refine bel_step ?_ hb; (repeat (first | refine bel_alloc ?_ _ | refine bel_dN ?_ _ | refine Below.drew ?_ | refine Below.setCell ?_ (by first | (simp; done) | (simp; omega)) _)); refine bel_step ?_ B1; (repeat (first | refine bel_alloc ?_ _ | refine bel_dN ?_ _ | refine Below.drew ?_ | refine Below.setCell ?_ (by first | (simp; done) | (simp; omega)) _)); exact Below.refl _ _)

set_option maxHeartbeats 1000000 in
theorem rfSpecShort32 (neg : Bool) (m : Nat) (e : Int) (more : Bool) (hmm : m < 18446744073709551616) (h1 : m < 1152921504606846976) (h2 : -1000 ≤ e) (h3 : e ≤ 1000) (h4 : more = true) (h5 : ¬ 26 ≤ Lib.bitLen m) (w : World) :
    Calls Try.prog 11 #[.int .i64 32, .bool neg, .int .u64 (m : Int), .int .i64 e, .bool more] w fun x w' => x = .returned (.tuple #[.int .u32 0, .bool false]) ∧ Below w.heap.size w w' := by
  have LN := l4LenB m hmm
  have IN := l1InYes e (-1000) 1000 h2 h3
  generalize Lib.bitLen m = n at *
  obtain ⟨M, hM⟩ : ∃ M : Int, (m : Int) = M := ⟨_, rfl⟩
  rw [hM] at LN ⊢
  have c1 : decide (1152921504606846976 ≤ M) = false := by simp; omega
  have c2 : decide ((n : Int) < 26) = true := by simp; omega
  subst h4
  clear h1 h2 h3 h5 hM
  have v4 : IntKind.i64.wrap 23 = 23 := by rw [IntKind.wrap_i64]; omega
  have v5 : IntKind.i64.wrap (23 + 3) = 23 + 3 := by rw [IntKind.wrap_i64]; omega
  have v6 : IntKind.i64.wrap 26 = 26 := by rw [IntKind.wrap_i64]; omega
  go_enter Try.func11, Try.ntmps11
  go_wp2_with fail
  refine (l4Kind32 _).mono ?_
  rintro e' w1 ⟨rfl, B1⟩
  go_wp2_with fail
  have k0 : ∀ w, Keeps (w1.alloc (.cells #[.int .u64 8, .int .u64 23] 34)) w → w.cell? ⟨w1.heap.size, 0, none⟩ = some (.int .u64 8) := fun w h => h.cell (by simp) (by simp)
  have k1 : ∀ w, Keeps (w1.alloc (.cells #[.int .u64 8, .int .u64 23] 34)) w → w.cell? ⟨w1.heap.size, 1, none⟩ = some (.int .u64 23) := fun w h => h.cell (by simp) (by simp)
  refine region_w (C := Keeps (w1.alloc (.cells #[.int .u64 8, .int .u64 23] 34))) (by kernel_rfl) (by kernel_rfl) (Keeps.drew _) ?_
  (iterate 23
    (apply wq_go _ (by rfl)
     · intro wq hq
       go_simp
       first
         | (go_at_call 25; exact qsame hq (IN _))
         | (go_at_call 26; exact qsame hq (LN _))
         | exact rfl
     simp only [Act.put, List.setIfInBounds_toArray, List.set_cons_succ, List.set_cons_zero]))
  refine wq_nil ?_
  intro w2 hk
  have q0 := k0 _ hk
  have q1 := k1 _ hk
  have hb := hk.below
  clear k0 k1 v4 v5 v6 hk
  go_wp2
  go_ret2
  refine ⟨rfl, ?_⟩
  ((repeat (first | refine bel_alloc ?_ _ | refine bel_dN ?_ _ | refine Below.drew ?_ | refine Below.setCell ?_ (by first | (simp; done) | (simp; omega)) _)); refine bel_step ?_ hb; (repeat (first | refine bel_alloc ?_ _ | refine bel_dN ?_ _ | refine Below.drew ?_ | refine Below.setCell ?_ (by first | (simp; done) | (simp; omega)) _)); refine bel_step ?_ B1; (repeat (first | refine bel_alloc ?_ _ | refine bel_dN ?_ _ | refine Below.drew ?_ | refine Below.setCell ?_ (by first | (simp; done) | (simp; omega)) _)); exact Below.refl _ _)

set_option maxHeartbeats 1000000 in
theorem rfSpecExp16 (neg : Bool) (m : Nat) (e : Int) (more : Bool) (hmm : m < 18446744073709551616) (h1 : m < 1152921504606846976) (h2 : ¬ (-1000 ≤ e ∧ e ≤ 1000)) (w : World) :
    Calls Try.prog 11 #[.int .i64 16, .bool neg, .int .u64 (m : Int), .int .i64 e, .bool more] w fun x w' => x = .returned (.tuple #[.int .u32 0, .bool false]) ∧ Below w.heap.size w w' := by
  have LN := l4LenB m hmm
  have IN := l1InNo e (-1000) 1000 h2
  generalize Lib.bitLen m = n at *
  obtain ⟨M, hM⟩ : ∃ M : Int, (m : Int) = M := ⟨_, rfl⟩
  rw [hM] at LN ⊢
  have c1 : decide (1152921504606846976 ≤ M) = false := by simp; omega
  clear h1 h2 hM
  have v4 : IntKind.i64.wrap 10 = 10 := by rw [IntKind.wrap_i64]; omega
  have v5 : IntKind.i64.wrap (10 + 3) = 10 + 3 := by rw [IntKind.wrap_i64]; omega
  have v6 : IntKind.i64.wrap 13 = 13 := by rw [IntKind.wrap_i64]; omega
  go_enter Try.func11, Try.ntmps11
  go_wp2_with fail
  refine (l4Kind16 _).mono ?_
  rintro e' w1 ⟨rfl, B1⟩
  go_wp2_with fail
  have k0 : ∀ w, Keeps (w1.alloc (.cells #[.int .u64 5, .int .u64 10] 34)) w → w.cell? ⟨w1.heap.size, 0, none⟩ = some (.int .u64 5) := fun w h => h.cell (by simp) (by simp)
  have k1 : ∀ w, Keeps (w1.alloc (.cells #[.int .u64 5, .int .u64 10] 34)) w → w.cell? ⟨w1.heap.size, 1, none⟩ = some (.int .u64 10) := fun w h => h.cell (by simp) (by simp)
  refine region_w (C := Keeps (w1.alloc (.cells #[.int .u64 5, .int .u64 10] 34))) (by kernel_rfl) (by kernel_rfl) (Keeps.drew _) ?_
  (iterate 12
    (apply wq_go _ (by rfl)
     · intro wq hq
       go_simp
       first
         | (go_at_call 25; exact qsame hq (IN _))
         | (go_at_call 26; exact qsame hq (LN _))
         | exact rfl
     simp only [Act.put, List.setIfInBounds_toArray, List.set_cons_succ, List.set_cons_zero]))
  (iterate 10 (refine wq_no (by rfl) ?_; simp only [Act.put, List.setIfInBounds_toArray, List.set_cons_succ, List.set_cons_zero]))
  (iterate 1
    (apply wq_go _ (by rfl)
     · intro wq hq
       go_simp
       first
         | (go_at_call 25; exact qsame hq (IN _))
         | (go_at_call 26; exact qsame hq (LN _))
         | exact rfl
     simp only [Act.put, List.setIfInBounds_toArray, List.set_cons_succ, List.set_cons_zero]))
  refine wq_nil ?_
  intro w2 hk
  have q0 := k0 _ hk
  have q1 := k1 _ hk
  have hb := hk.below
  clear k0 k1 v4 v5 v6 hk
  go_wp2
  go_ret2
  refine ⟨rfl, ?_⟩
  ((repeat (first | refine bel_alloc ?_ _ | refine bel_dN ?_ _ | refine Below.drew ?_ | refine Below.setCell ?_ (by first | (simp; done) | (simp; omega)) _)); refine bel_step ?_ hb; (repeat (first | refine bel_alloc ?_ _ | refine bel_dN ?_ _ | refine Below.drew ?_ | refine Below.setCell ?_ (by first | (simp; done) | (simp; omega)) _)); refine bel_step ?_ B1; (repeat (first | refine bel_alloc ?_ _ | refine bel_dN ?_ _ | refine Below.drew ?_ | refine Below.setCell ?_ (by first | (simp; done) | (simp; omega)) _)); exact Below.refl _ _)

set_option maxHeartbeats 1000000 in
theorem rfSpecExp32 (neg : Bool) (m : Nat) (e : Int) (more : Bool) (hmm : m < 18446744073709551616) (h1 : m < 1152921504606846976) (h2 : ¬ (-1000 ≤ e ∧ e ≤ 1000)) (w : World) :
    Calls Try.prog 11 #[.int .i64 32, .bool neg, .int .u64 (m : Int), .int .i64 e, .bool more] w fun x w' => x = .returned (.tuple #[.int .u32 0, .bool false]) ∧ Below w.heap.size w w' := by
  have LN := l4LenB m hmm
  have IN := l1InNo e (-1000) 1000 h2
  generalize Lib.bitLen m = n at *
  obtain ⟨M, hM⟩ : ∃ M : Int, (m : Int) = M := ⟨_, rfl⟩
  rw [hM] at LN ⊢
  have c1 : decide (1152921504606846976 ≤ M) = false := by simp; omega
  clear h1 h2 hM
  have v4 : IntKind.i64.wrap 23 = 23 := by rw [IntKind.wrap_i64]; omega
  have v5 : IntKind.i64.wrap (23 + 3) = 23 + 3 := by rw [IntKind.wrap_i64]; omega
  have v6 : IntKind.i64.wrap 26 = 26 := by rw [IntKind.wrap_i64]; omega
  go_enter Try.func11, Try.ntmps11
  go_wp2_with fail
  refine (l4Kind32 _).mono ?_
  rintro e' w1 ⟨rfl, B1⟩
  go_wp2_with fail
  have k0 : ∀ w, Keeps (w1.alloc (.cells #[.int .u64 8, .int .u64 23] 34)) w → w.cell? ⟨w1.heap.size, 0, none⟩ = some (.int .u64 8) := fun w h => h.cell (by simp) (by simp)
  have k1 : ∀ w, Keeps (w1.alloc (.cells #[.int .u64 8, .int .u64 23] 34)) w → w.cell? ⟨w1.heap.size, 1, none⟩ = some (.int .u64 23) := fun w h => h.cell (by simp) (by simp)
  refine region_w (C := Keeps (w1.alloc (.cells #[.int .u64 8, .int .u64 23] 34))) (by kernel_rfl) (by kernel_rfl) (Keeps.drew _) ?_
  (iterate 12
    (apply wq_go _ (by rfl)
     · intro wq hq
       go_simp
       first
         | (go_at_call 25; exact qsame hq (IN _))
         | (go_at_call 26; exact qsame hq (LN _))
         | exact rfl
     simp only [Act.put, List.setIfInBounds_toArray, List.set_cons_succ, List.set_cons_zero]))
  (iterate 10 (refine wq_no (by rfl) ?_; simp only [Act.put, List.setIfInBounds_toArray, List.set_cons_succ, List.set_cons_zero]))
  (iterate 1
    (apply wq_go _ (by rfl)
     · intro wq hq
       go_simp
       first
         | (go_at_call 25; exact qsame hq (IN _))
         | (go_at_call 26; exact qsame hq (LN _))
         | exact rfl
     simp only [Act.put, List.setIfInBounds_toArray, List.set_cons_succ, List.set_cons_zero]))
  refine wq_nil ?_
  intro w2 hk
  have q0 := k0 _ hk
  have q1 := k1 _ hk
  have hb := hk.below
  clear k0 k1 v4 v5 v6 hk
  go_wp2
  go_ret2
  refine ⟨rfl, ?_⟩
  ((repeat (first | refine bel_alloc ?_ _ | refine bel_dN ?_ _ | refine Below.drew ?_ | refine Below.setCell ?_ (by first | (simp; done) | (simp; omega)) _)); refine bel_step ?_ hb; (repeat (first | refine bel_alloc ?_ _ | refine bel_dN ?_ _ | refine Below.drew ?_ | refine Below.setCell ?_ (by first | (simp; done) | (simp; omega)) _)); refine bel_step ?_ B1; (repeat (first | refine bel_alloc ?_ _ | refine bel_dN ?_ _ | refine Below.drew ?_ | refine Below.setCell ?_ (by first | (simp; done) | (simp; omega)) _)); exact Below.refl _ _)

set_option maxHeartbeats 1000000 in
theorem rfSpecBig16 (neg : Bool) (m : Nat) (e : Int) (more : Bool) (hmm : m < 18446744073709551616) (h1 : ¬ m < 1152921504606846976) (w : World) :
    Calls Try.prog 11 #[.int .i64 16, .bool neg, .int .u64 (m : Int), .int .i64 e, .bool more] w fun x w' => x = .returned (.tuple #[.int .u32 0, .bool false]) ∧ Below w.heap.size w w' := by
  have LN := l4LenB m hmm
  generalize Lib.bitLen m = n at *
  obtain ⟨M, hM⟩ : ∃ M : Int, (m : Int) = M := ⟨_, rfl⟩
  rw [hM] at LN ⊢
  have c1 : decide (1152921504606846976 ≤ M) = true := by simp; omega
  clear h1 hM
  have v4 : IntKind.i64.wrap 10 = 10 := by rw [IntKind.wrap_i64]; omega
  have v5 : IntKind.i64.wrap (10 + 3) = 10 + 3 := by rw [IntKind.wrap_i64]; omega
  have v6 : IntKind.i64.wrap 13 = 13 := by rw [IntKind.wrap_i64]; omega
  go_enter Try.func11, Try.ntmps11
  go_wp2_with fail
  refine (l4Kind16 _).mono ?_
  rintro e' w1 ⟨rfl, B1⟩
  go_wp2_with fail
  have k0 : ∀ w, Keeps (w1.alloc (.cells #[.int .u64 5, .int .u64 10] 34)) w → w.cell? ⟨w1.heap.size, 0, none⟩ = some (.int .u64 5) := fun w h => h.cell (by simp) (by simp)
  have k1 : ∀ w, Keeps (w1.alloc (.cells #[.int .u64 5, .int .u64 10] 34)) w → w.cell? ⟨w1.heap.size, 1, none⟩ = some (.int .u64 10) := fun w h => h.cell (by simp) (by simp)
  refine region_w (C := Keeps (w1.alloc (.cells #[.int .u64 5, .int .u64 10] 34))) (by kernel_rfl) (by kernel_rfl) (Keeps.drew _) ?_
  (iterate 7
    (apply wq_go _ (by rfl)
     · intro wq hq
       go_simp
       first
         | (go_at_call 26; exact qsame hq (LN _))
         | exact rfl
     simp only [Act.put, List.setIfInBounds_toArray, List.set_cons_succ, List.set_cons_zero]))
  (iterate 3 (refine wq_no (by rfl) ?_; simp only [Act.put, List.setIfInBounds_toArray, List.set_cons_succ, List.set_cons_zero]))
  (iterate 2
    (apply wq_go _ (by rfl)
     · intro wq hq
       go_simp
       first
         | (go_at_call 26; exact qsame hq (LN _))
         | exact rfl
     simp only [Act.put, List.setIfInBounds_toArray, List.set_cons_succ, List.set_cons_zero]))
  (iterate 10 (refine wq_no (by rfl) ?_; simp only [Act.put, List.setIfInBounds_toArray, List.set_cons_succ, List.set_cons_zero]))
  (iterate 1
    (apply wq_go _ (by rfl)
     · intro wq hq
       go_simp
       first
         | (go_at_call 26; exact qsame hq (LN _))
         | exact rfl
     simp only [Act.put, List.setIfInBounds_toArray, List.set_cons_succ, List.set_cons_zero]))
  refine wq_nil ?_
  intro w2 hk
  have q0 := k0 _ hk
  have q1 := k1 _ hk
  have hb := hk.below
  clear k0 k1 v4 v5 v6 hk
  go_wp2
  go_ret2
  refine ⟨rfl, ?_⟩
  ((repeat (first | refine bel_alloc ?_ _ | refine bel_dN ?_ _ | refine Below.drew ?_ | refine Below.setCell ?_ (by first | (simp; done) | (simp; omega)) _)); refine bel_step ?_ hb; (repeat (first | refine bel_alloc ?_ _ | refine bel_dN ?_ _ | refine Below.drew ?_ | refine Below.setCell ?_ (by first | (simp; done) | (simp; omega)) _)); refine bel_step ?_ B1; (repeat (first | refine bel_alloc ?_ _ | refine bel_dN ?_ _ | refine Below.drew ?_ | refine Below.setCell ?_ (by first | (simp; done) | (simp; omega)) _)); exact Below.refl _ _)

set_option maxHeartbeats 1000000 in
theorem rfSpecBig32 (neg : Bool) (m : Nat) (e : Int) (more : Bool) (hmm : m < 18446744073709551616) (h1 : ¬ m < 1152921504606846976) (w : World) :
    Calls Try.prog 11 #[.int .i64 32, .bool neg, .int .u64 (m : Int), .int .i64 e, .bool more] w fun x w' => x = .returned (.tuple #[.int .u32 0, .bool false]) ∧ Below w.heap.size w w' := by
  have LN := l4LenB m hmm
  generalize Lib.bitLen m = n at *
  obtain ⟨M, hM⟩ : ∃ M : Int, (m : Int) = M := ⟨_, rfl⟩
  rw [hM] at LN ⊢
  have c1 : decide (1152921504606846976 ≤ M) = true := by simp; omega
  clear h1 hM
  have v4 : IntKind.i64.wrap 23 = 23 := by rw [IntKind.wrap_i64]; omega
  have v5 : IntKind.i64.wrap (23 + 3) = 23 + 3 := by rw [IntKind.wrap_i64]; omega
  have v6 : IntKind.i64.wrap 26 = 26 := by rw [IntKind.wrap_i64]; omega
  go_enter Try.func11, Try.ntmps11
  go_wp2_with fail
  refine (l4Kind32 _).mono ?_
  rintro e' w1 ⟨rfl, B1⟩
  go_wp2_with fail
  have k0 : ∀ w, Keeps (w1.alloc (.cells #[.int .u64 8, .int .u64 23] 34)) w → w.cell? ⟨w1.heap.size, 0, none⟩ = some (.int .u64 8) := fun w h => h.cell (by simp) (by simp)
  have k1 : ∀ w, Keeps (w1.alloc (.cells #[.int .u64 8, .int .u64 23] 34)) w → w.cell? ⟨w1.heap.size, 1, none⟩ = some (.int .u64 23) := fun w h => h.cell (by simp) (by simp)
  refine region_w (C := Keeps (w1.alloc (.cells #[.int .u64 8, .int .u64 23] 34))) (by kernel_rfl) (by kernel_rfl) (Keeps.drew _) ?_
  (iterate 7
    (apply wq_go _ (by rfl)
     · intro wq hq
       go_simp
       first
         | (go_at_call 26; exact qsame hq (LN _))
         | exact rfl
     simp only [Act.put, List.setIfInBounds_toArray, List.set_cons_succ, List.set_cons_zero]))
  (iterate 3 (refine wq_no (by rfl) ?_; simp only [Act.put, List.setIfInBounds_toArray, List.set_cons_succ, List.set_cons_zero]))
  (iterate 2
    (apply wq_go _ (by rfl)
     · intro wq hq
       go_simp
       first
         | (go_at_call 26; exact qsame hq (LN _))
         | exact rfl
     simp only [Act.put, List.setIfInBounds_toArray, List.set_cons_succ, List.set_cons_zero]))
  (iterate 10 (refine wq_no (by rfl) ?_; simp only [Act.put, List.setIfInBounds_toArray, List.set_cons_succ, List.set_cons_zero]))
  (iterate 1
    (apply wq_go _ (by rfl)
     · intro wq hq
       go_simp
       first
         | (go_at_call 26; exact qsame hq (LN _))
         | exact rfl
     simp only [Act.put, List.setIfInBounds_toArray, List.set_cons_succ, List.set_cons_zero]))
  refine wq_nil ?_
  intro w2 hk
  have q0 := k0 _ hk
  have q1 := k1 _ hk
  have hb := hk.below
  clear k0 k1 v4 v5 v6 hk
  go_wp2
  go_ret2
  refine ⟨rfl, ?_⟩
  ((repeat (first | refine bel_alloc ?_ _ | refine bel_dN ?_ _ | refine Below.drew ?_ | refine Below.setCell ?_ (by first | (simp; done) | (simp; omega)) _)); refine bel_step ?_ hb; (repeat (first | refine bel_alloc ?_ _ | refine bel_dN ?_ _ | refine Below.drew ?_ | refine Below.setCell ?_ (by first | (simp; done) | (simp; omega)) _)); refine bel_step ?_ B1; (repeat (first | refine bel_alloc ?_ _ | refine bel_dN ?_ _ | refine Below.drew ?_ | refine Below.setCell ?_ (by first | (simp; done) | (simp; omega)) _)); exact Below.refl _ _)

set_option maxHeartbeats 1000000 in
theorem rfImplPlain16 (neg : Bool) (m : Nat) (e : Int) (more : Bool) (hmm : m < 18446744073709551616) (h1 : m < 1152921504606846976) (h2 : -1000 ≤ e) (h3 : e ≤ 1000) (h4 : more = false) (w : World) :
    Calls Try.prog 12 #[.int .i64 16, .bool neg, .int .u64 (m : Int), .int .i64 e, .bool more] w fun x w' => x = .returned (.tuple #[.int .u32 (neg.toNat * 32768 + ((min (toldOf 10 (-24) m e more) 31744 : Nat) : Int)), .bool true]) ∧ Below w.heap.size w w' := by
  have R := implRound16 neg m h1 e (by omega) (by omega) more
  generalize (neg.toNat : Int) * 32768 + ((min (toldOf 10 (-24) m e more) 31744 : Nat) : Int) = r at *
  have LN := len64F m hmm
  generalize Lib.bitLen m = n at *
  obtain ⟨M, hM⟩ : ∃ M : Int, (m : Int) = M := ⟨_, rfl⟩
  rw [hM] at R LN ⊢
  have c1 : M < 1152921504606846976 := by omega
  subst h4
  clear h1 hM
  have v5 : IntKind.i64.wrap (10 + 3) = 10 + 3 := by rw [IntKind.wrap_i64]; omega
  have v6 : IntKind.i64.wrap 13 = 13 := by rw [IntKind.wrap_i64]; omega
  go_enter Try.func12, Try.ntmps12
  go_wp2_with fail
  refine (form16 _).mono ?_
  rintro e' w1 ⟨rfl, B1⟩
  go_wp2_with fail
  have k0 : ∀ w, Keeps (w1.alloc (.cells #[.int .i64 10, .int .i64 15, .int .u32 31] 41)) w → w.cell? ⟨w1.heap.size, 0, none⟩ = some (.int .i64 10) := fun w h => h.cell (by simp) (by simp)
  have k1 : ∀ w, Keeps (w1.alloc (.cells #[.int .i64 10, .int .i64 15, .int .u32 31] 41)) w → w.cell? ⟨w1.heap.size, 1, none⟩ = some (.int .i64 15) := fun w h => h.cell (by simp) (by simp)
  have k2 : ∀ w, Keeps (w1.alloc (.cells #[.int .i64 10, .int .i64 15, .int .u32 31] 41)) w → w.cell? ⟨w1.heap.size, 2, none⟩ = some (.int .u32 31) := fun w h => h.cell (by simp) (by simp)
  refine region_w (C := Keeps (w1.alloc (.cells #[.int .i64 10, .int .i64 15, .int .u32 31] 41))) (by kernel_rfl) (by kernel_rfl) (Keeps.drew _) ?_
  (iterate 2
    (apply wq_go _ (by rfl)
     · intro wq hq
       go_simp
       first
         | (go_at_call 28; exact qsame hq (LN _))
         | exact rfl
     simp only [Act.put, List.setIfInBounds_toArray, List.set_cons_succ, List.set_cons_zero]))
  (iterate 6 (refine wq_no (by rfl) ?_; simp only [Act.put, List.setIfInBounds_toArray, List.set_cons_succ, List.set_cons_zero]))
  (iterate 1
    (apply wq_go _ (by rfl)
     · intro wq hq
       go_simp
       first
         | (go_at_call 28; exact qsame hq (LN _))
         | exact rfl
     simp only [Act.put, List.setIfInBounds_toArray, List.set_cons_succ, List.set_cons_zero]))
  refine wq_nil ?_
  intro w2 hk
  have q0 := k0 _ hk
  have q1 := k1 _ hk
  have q2 := k2 _ hk
  have hb := hk.below
  clear k0 k1 k2 v5 v6 hk
  go_wp2_with fail
  refine (R _).mono ?_
  rintro e' w3 ⟨rfl, B3⟩
  go_wp2
  go_ret2
  refine ⟨rfl, ?_⟩
  ((repeat (first | refine bel_alloc ?_ _ | refine bel_dN ?_ _ | refine Below.drew ?_ | refine Below.setCell ?_ (by first | (simp; done) | (simp; omega)) _)); refine bel_step ?_ B3; (repeat (first | refine bel_alloc ?_ _ | refine bel_dN ?_ _ | refine Below.drew ?_ | refine Below.setCell ?_ (by first | (simp; done) | (simp; omega)) _)); refine bel_step ?_ hb; (repeat (first | refine bel_alloc ?_ _ | refine bel_dN ?_ _ | refine Below.drew ?_ | refine Below.setCell ?_ (by first | (simp; done) | (simp; omega)) _)); refine bel_step ?_ B1; (repeat (first | refine bel_alloc ?_ _ | refine bel_dN ?_ _ | refine Below.drew ?_ | refine Below.setCell ?_ (by first | (simp; done) | (simp; omega)) _)); exact Below.refl _ _)

set_option maxHeartbeats 1000000 in
theorem rfImplPlain32 (neg : Bool) (m : Nat) (e : Int) (more : Bool) (hmm : m < 18446744073709551616) (h1 : m < 1152921504606846976) (h2 : -1000 ≤ e) (h3 : e ≤ 1000) (h4 : more = false) (w : World) :
    Calls Try.prog 12 #[.int .i64 32, .bool neg, .int .u64 (m : Int), .int .i64 e, .bool more] w fun x w' => x = .returned (.tuple #[.int .u32 (neg.toNat * 2147483648 + ((min (toldOf 23 (-149) m e more) 2139095040 : Nat) : Int)), .bool true]) ∧ Below w.heap.size w w' := by
  have R := implRound32 neg m h1 e (by omega) (by omega) more
  generalize (neg.toNat : Int) * 2147483648 + ((min (toldOf 23 (-149) m e more) 2139095040 : Nat) : Int) = r at *
  have LN := len64F m hmm
  generalize Lib.bitLen m = n at *
  obtain ⟨M, hM⟩ : ∃ M : Int, (m : Int) = M := ⟨_, rfl⟩
  rw [hM] at R LN ⊢
  have c1 : M < 1152921504606846976 := by omega
  subst h4
  clear h1 hM
  have v5 : IntKind.i64.wrap (23 + 3) = 23 + 3 := by rw [IntKind.wrap_i64]; omega
  have v6 : IntKind.i64.wrap 26 = 26 := by rw [IntKind.wrap_i64]; omega
  go_enter Try.func12, Try.ntmps12
  go_wp2_with fail
  refine (form32 _).mono ?_
  rintro e' w1 ⟨rfl, B1⟩
  go_wp2_with fail
  have k0 : ∀ w, Keeps (w1.alloc (.cells #[.int .i64 23, .int .i64 127, .int .u32 255] 41)) w → w.cell? ⟨w1.heap.size, 0, none⟩ = some (.int .i64 23) := fun w h => h.cell (by simp) (by simp)
  have k1 : ∀ w, Keeps (w1.alloc (.cells #[.int .i64 23, .int .i64 127, .int .u32 255] 41)) w → w.cell? ⟨w1.heap.size, 1, none⟩ = some (.int .i64 127) := fun w h => h.cell (by simp) (by simp)
  have k2 : ∀ w, Keeps (w1.alloc (.cells #[.int .i64 23, .int .i64 127, .int .u32 255] 41)) w → w.cell? ⟨w1.heap.size, 2, none⟩ = some (.int .u32 255) := fun w h => h.cell (by simp) (by simp)
  refine region_w (C := Keeps (w1.alloc (.cells #[.int .i64 23, .int .i64 127, .int .u32 255] 41))) (by kernel_rfl) (by kernel_rfl) (Keeps.drew _) ?_
  (iterate 2
    (apply wq_go _ (by rfl)
     · intro wq hq
       go_simp
       first
         | (go_at_call 28; exact qsame hq (LN _))
         | exact rfl
     simp only [Act.put, List.setIfInBounds_toArray, List.set_cons_succ, List.set_cons_zero]))
  (iterate 6 (refine wq_no (by rfl) ?_; simp only [Act.put, List.setIfInBounds_toArray, List.set_cons_succ, List.set_cons_zero]))
  (iterate 1
    (apply wq_go _ (by rfl)
     · intro wq hq
       go_simp
       first
         | (go_at_call 28; exact qsame hq (LN _))
         | exact rfl
     simp only [Act.put, List.setIfInBounds_toArray, List.set_cons_succ, List.set_cons_zero]))
  refine wq_nil ?_
  intro w2 hk
  have q0 := k0 _ hk
  have q1 := k1 _ hk
  have q2 := k2 _ hk
  have hb := hk.below
  clear k0 k1 k2 v5 v6 hk
  go_wp2_with fail
  refine (R _).mono ?_
  rintro e' w3 ⟨rfl, B3⟩
  go_wp2
  go_ret2
  refine ⟨rfl, ?_⟩
  ((repeat (first | refine bel_alloc ?_ _ | refine bel_dN ?_ _ | refine Below.drew ?_ | refine Below.setCell ?_ (by first | (simp; done) | (simp; omega)) _)); refine bel_step ?_ B3; (repeat (first | refine bel_alloc ?_ _ | refine bel_dN ?_ _ | refine Below.drew ?_ | refine Below.setCell ?_ (by first | (simp; done) | (simp; omega)) _)); refine bel_step ?_ hb; (repeat (first | refine bel_alloc ?_ _ | refine bel_dN ?_ _ | refine Below.drew ?_ | refine Below.setCell ?_ (by first | (simp; done) | (simp; omega)) _)); refine bel_step ?_ B1; (repeat (first | refine bel_alloc ?_ _ | refine bel_dN ?_ _ | refine Below.drew ?_ | refine Below.setCell ?_ (by first | (simp; done) | (simp; omega)) _)); exact Below.refl _ _)

set_option maxHeartbeats 1000000 in
theorem rfImplMore16 (neg : Bool) (m : Nat) (e : Int) (more : Bool) (hmm : m < 18446744073709551616) (h1 : m < 1152921504606846976) (h2 : -1000 ≤ e) (h3 : e ≤ 1000) (h4 : more = true) (h5 : 13 ≤ Lib.bitLen m) (w : World) :
    Calls Try.prog 12 #[.int .i64 16, .bool neg, .int .u64 (m : Int), .int .i64 e, .bool more] w fun x w' => x = .returned (.tuple #[.int .u32 (neg.toNat * 32768 + ((min (toldOf 10 (-24) m e more) 31744 : Nat) : Int)), .bool true]) ∧ Below w.heap.size w w' := by
  have R := implRound16 neg m h1 e (by omega) (by omega) more
  generalize (neg.toNat : Int) * 32768 + ((min (toldOf 10 (-24) m e more) 31744 : Nat) : Int) = r at *
  have LN := len64F m hmm
  generalize Lib.bitLen m = n at *
  obtain ⟨M, hM⟩ : ∃ M : Int, (m : Int) = M := ⟨_, rfl⟩
  rw [hM] at R LN ⊢
  have c1 : M < 1152921504606846976 := by omega
  have c2 : decide ((n : Int) < 13) = false := by simp; omega
  subst h4
  clear h1 h5 hM
  have v5 : IntKind.i64.wrap (10 + 3) = 10 + 3 := by rw [IntKind.wrap_i64]; omega
  have v6 : IntKind.i64.wrap 13 = 13 := by rw [IntKind.wrap_i64]; omega
  go_enter Try.func12, Try.ntmps12
  go_wp2_with fail
  refine (form16 _).mono ?_
  rintro e' w1 ⟨rfl, B1⟩
  go_wp2_with fail
  have k0 : ∀ w, Keeps (w1.alloc (.cells #[.int .i64 10, .int .i64 15, .int .u32 31] 41)) w → w.cell? ⟨w1.heap.size, 0, none⟩ = some (.int .i64 10) := fun w h => h.cell (by simp) (by simp)
  have k1 : ∀ w, Keeps (w1.alloc (.cells #[.int .i64 10, .int .i64 15, .int .u32 31] 41)) w → w.cell? ⟨w1.heap.size, 1, none⟩ = some (.int .i64 15) := fun w h => h.cell (by simp) (by simp)
  have k2 : ∀ w, Keeps (w1.alloc (.cells #[.int .i64 10, .int .i64 15, .int .u32 31] 41)) w → w.cell? ⟨w1.heap.size, 2, none⟩ = some (.int .u32 31) := fun w h => h.cell (by simp) (by simp)
  refine region_w (C := Keeps (w1.alloc (.cells #[.int .i64 10, .int .i64 15, .int .u32 31] 41))) (by kernel_rfl) (by kernel_rfl) (Keeps.drew _) ?_
  (iterate 9
    (apply wq_go _ (by rfl)
     · intro wq hq
       go_simp
       first
         | (go_at_call 28; exact qsame hq (LN _))
         | exact rfl
     simp only [Act.put, List.setIfInBounds_toArray, List.set_cons_succ, List.set_cons_zero]))
  refine wq_nil ?_
  intro w2 hk
  have q0 := k0 _ hk
  have q1 := k1 _ hk
  have q2 := k2 _ hk
  have hb := hk.below
  clear k0 k1 k2 v5 v6 hk
  go_wp2_with fail
  refine (R _).mono ?_
  rintro e' w3 ⟨rfl, B3⟩
  go_wp2
  go_ret2
  refine ⟨rfl, ?_⟩
  ((repeat (first | refine bel_alloc ?_ _ | refine bel_dN ?_ _ | refine Below.drew ?_ | refine Below.setCell ?_ (by first | (simp; done) | (simp; omega)) _)); refine bel_step ?_ B3; (repeat (first | refine bel_alloc ?_ _ | refine bel_dN ?_ _ | refine Below.drew ?_ | refine Below.setCell ?_ (by first | (simp; done) | (simp; omega)) _)); refine bel_step ?_ hb; (repeat (first | refine bel_alloc ?_ _ | refine bel_dN ?_ _ | refine Below.drew ?_ | refine Below.setCell ?_ (by first | (simp; done) | (simp; omega)) _)); refine bel_step ?_ B1; (repeat (first | refine bel_alloc ?_ _ | refine bel_dN ?_ _ | refine Below.drew ?_ | refine Below.setCell ?_ (by first | (simp; done) | (simp; omega)) _)); exact Below.refl _ _)

set_option maxHeartbeats 1000000 in
theorem rfImplMore32 (neg : Bool) (m : Nat) (e : Int) (more : Bool) (hmm : m < 18446744073709551616) (h1 : m < 1152921504606846976) (h2 : -1000 ≤ e) (h3 : e ≤ 1000) (h4 : more = true) (h5 : 26 ≤ Lib.bitLen m) (w : World) :
    Calls Try.prog 12 #[.int .i64 32, .bool neg, .int .u64 (m : Int), .int .i64 e, .bool more] w fun x w' => x = .returned (.tuple #[.int .u32 (neg.toNat * 2147483648 + ((min (toldOf 23 (-149) m e more) 2139095040 : Nat) : Int)), .bool true]) ∧ Below w.heap.size w w' := by
  have R := implRound32 neg m h1 e (by omega) (by omega) more
  generalize (neg.toNat : Int) * 2147483648 + ((min (toldOf 23 (-149) m e more) 2139095040 : Nat) : Int) = r at *
  have LN := len64F m hmm
  generalize Lib.bitLen m = n at *
  obtain ⟨M, hM⟩ : ∃ M : Int, (m : Int) = M := ⟨_, rfl⟩
  rw [hM] at R LN ⊢
  have c1 : M < 1152921504606846976 := by omega
  have c2 : decide ((n : Int) < 26) = false := by simp; omega
  subst h4
  clear h1 h5 hM
  have v5 : IntKind.i64.wrap (23 + 3) = 23 + 3 := by rw [IntKind.wrap_i64]; omega
  have v6 : IntKind.i64.wrap 26 = 26 := by rw [IntKind.wrap_i64]; omega
  go_enter Try.func12, Try.ntmps12
  go_wp2_with fail
  refine (form32 _).mono ?_
  rintro e' w1 ⟨rfl, B1⟩
  go_wp2_with fail
  have k0 : ∀ w, Keeps (w1.alloc (.cells #[.int .i64 23, .int .i64 127, .int .u32 255] 41)) w → w.cell? ⟨w1.heap.size, 0, none⟩ = some (.int .i64 23) := fun w h => h.cell (by simp) (by simp)
  have k1 : ∀ w, Keeps (w1.alloc (.cells #[.int .i64 23, .int .i64 127, .int .u32 255] 41)) w → w.cell? ⟨w1.heap.size, 1, none⟩ = some (.int .i64 127) := fun w h => h.cell (by simp) (by simp)
  have k2 : ∀ w, Keeps (w1.alloc (.cells #[.int .i64 23, .int .i64 127, .int .u32 255] 41)) w → w.cell? ⟨w1.heap.size, 2, none⟩ = some (.int .u32 255) := fun w h => h.cell (by simp) (by simp)
  refine region_w (C := Keeps (w1.alloc (.cells #[.int .i64 23, .int .i64 127, .int .u32 255] 41))) (by kernel_rfl) (by kernel_rfl) (Keeps.drew _) ?_
  (iterate 9
    (apply wq_go _ (by rfl)
     · intro wq hq
       go_simp
       first
         | (go_at_call 28; exact qsame hq (LN _))
         | exact rfl
     simp only [Act.put, List.setIfInBounds_toArray, List.set_cons_succ, List.set_cons_zero]))
  refine wq_nil ?_
  intro w2 hk
  have q0 := k0 _ hk
  have q1 := k1 _ hk
  have q2 := k2 _ hk
  have hb := hk.below
  clear k0 k1 k2 v5 v6 hk
  go_wp2_with fail
  refine (R _).mono ?_
  rintro e' w3 ⟨rfl, B3⟩
  go_wp2
  go_ret2
  refine ⟨rfl, ?_⟩
  ((repeat (first | refine bel_alloc ?_ _ | refine bel_dN ?_ _ | refine Below.drew ?_ | refine Below.setCell ?_ (by first | (simp; done) | (simp; omega)) _)); refine bel_step ?_ B3; (repeat (first | refine bel_alloc ?_ _ | refine bel_dN ?_ _ | refine Below.drew ?_ | refine Below.setCell ?_ (by first | (simp; done) | (simp; omega)) _)); refine bel_step ?_ hb; (repeat (first | refine bel_alloc ?_ _ | refine bel_dN ?_ _ | refine Below.drew ?_ | refine Below.setCell ?_ (by first | (simp; done) | (simp; omega)) _)); refine bel_step ?_ B1; (repeat (first | refine bel_alloc ?_ _ | refine bel_dN ?_ _ | refine Below.drew ?_ | refine Below.setCell ?_ (by first | (simp; done) | (simp; omega)) _)); exact Below.refl _ _)

set_option maxHeartbeats 1000000 in
theorem rfImplShort16 (neg : Bool) (m : Nat) (e : Int) (more : Bool) (hmm : m < 18446744073709551616) (h1 : m < 1152921504606846976) (h2 : -1000 ≤ e) (h3 : e ≤ 1000) (h4 : more = true) (h5 : ¬ 13 ≤ Lib.bitLen m) (w : World) :
    Calls Try.prog 12 #[.int .i64 16, .bool neg, .int .u64 (m : Int), .int .i64 e, .bool more] w fun x w' => x = .returned (.tuple #[.int .u32 0, .bool false]) ∧ Below w.heap.size w w' := by
  have LN := len64F m hmm
  generalize Lib.bitLen m = n at *
  obtain ⟨M, hM⟩ : ∃ M : Int, (m : Int) = M := ⟨_, rfl⟩
  rw [hM] at LN ⊢
  have c1 : M < 1152921504606846976 := by omega
  have c2 : decide ((n : Int) < 13) = true := by simp; omega
  subst h4
  clear h1 h5 hM
  have v5 : IntKind.i64.wrap (10 + 3) = 10 + 3 := by rw [IntKind.wrap_i64]; omega
  have v6 : IntKind.i64.wrap 13 = 13 := by rw [IntKind.wrap_i64]; omega
  go_enter Try.func12, Try.ntmps12
  go_wp2_with fail
  refine (form16 _).mono ?_
  rintro e' w1 ⟨rfl, B1⟩
  go_wp2_with fail
  have k0 : ∀ w, Keeps (w1.alloc (.cells #[.int .i64 10, .int .i64 15, .int .u32 31] 41)) w → w.cell? ⟨w1.heap.size, 0, none⟩ = some (.int .i64 10) := fun w h => h.cell (by simp) (by simp)
  have k1 : ∀ w, Keeps (w1.alloc (.cells #[.int .i64 10, .int .i64 15, .int .u32 31] 41)) w → w.cell? ⟨w1.heap.size, 1, none⟩ = some (.int .i64 15) := fun w h => h.cell (by simp) (by simp)
  have k2 : ∀ w, Keeps (w1.alloc (.cells #[.int .i64 10, .int .i64 15, .int .u32 31] 41)) w → w.cell? ⟨w1.heap.size, 2, none⟩ = some (.int .u32 31) := fun w h => h.cell (by simp) (by simp)
  refine region_w (C := Keeps (w1.alloc (.cells #[.int .i64 10, .int .i64 15, .int .u32 31] 41))) (by kernel_rfl) (by kernel_rfl) (Keeps.drew _) ?_
  (iterate 9
    (apply wq_go _ (by rfl)
     · intro wq hq
       go_simp
       first
         | (go_at_call 28; exact qsame hq (LN _))
         | exact rfl
     simp only [Act.put, List.setIfInBounds_toArray, List.set_cons_succ, List.set_cons_zero]))
  refine wq_nil ?_
  intro w2 hk
  have q0 := k0 _ hk
  have q1 := k1 _ hk
  have q2 := k2 _ hk
  have hb := hk.below
  clear k0 k1 k2 v5 v6 hk
  go_wp2
  go_ret2
  refine ⟨rfl, ?_⟩
  ((repeat (first | refine bel_alloc ?_ _ | refine bel_dN ?_ _ | refine Below.drew ?_ | refine Below.setCell ?_ (by first | (simp; done) | (simp; omega)) _)); refine bel_step ?_ hb; (repeat (first | refine bel_alloc ?_ _ | refine bel_dN ?_ _ | refine Below.drew ?_ | refine Below.setCell ?_ (by first | (simp; done) | (simp; omega)) _)); refine bel_step ?_ B1; (repeat (first | refine bel_alloc ?_ _ | refine bel_dN ?_ _ | refine Below.drew ?_ | refine Below.setCell ?_ (by first | (simp; done) | (simp; omega)) _)); exact Below.refl _ _)

set_option maxHeartbeats 1000000 in
theorem rfImplShort32 (neg : Bool) (m : Nat) (e : Int) (more : Bool) (hmm : m < 18446744073709551616) (h1 : m < 1152921504606846976) (h2 : -1000 ≤ e) (h3 : e ≤ 1000) (h4 : more = true) (h5 : ¬ 26 ≤ Lib.bitLen m) (w : World) :
    Calls Try.prog 12 #[.int .i64 32, .bool neg, .int .u64 (m : Int), .int .i64 e, .bool more] w fun x w' => x = .returned (.tuple #[.int .u32 0, .bool false]) ∧ Below w.heap.size w w' := by
  have LN := len64F m hmm
  generalize Lib.bitLen m = n at *
  obtain ⟨M, hM⟩ : ∃ M : Int, (m : Int) = M := ⟨_, rfl⟩
  rw [hM] at LN ⊢
  have c1 : M < 1152921504606846976 := by omega
  have c2 : decide ((n : Int) < 26) = true := by simp; omega
  subst h4
  clear h1 h5 hM
  have v5 : IntKind.i64.wrap (23 + 3) = 23 + 3 := by rw [IntKind.wrap_i64]; omega
  have v6 : IntKind.i64.wrap 26 = 26 := by rw [IntKind.wrap_i64]; omega
  go_enter Try.func12, Try.ntmps12
  go_wp2_with fail
  refine (form32 _).mono ?_
  rintro e' w1 ⟨rfl, B1⟩
  go_wp2_with fail
  have k0 : ∀ w, Keeps (w1.alloc (.cells #[.int .i64 23, .int .i64 127, .int .u32 255] 41)) w → w.cell? ⟨w1.heap.size, 0, none⟩ = some (.int .i64 23) := fun w h => h.cell (by simp) (by simp)
  have k1 : ∀ w, Keeps (w1.alloc (.cells #[.int .i64 23, .int .i64 127, .int .u32 255] 41)) w → w.cell? ⟨w1.heap.size, 1, none⟩ = some (.int .i64 127) := fun w h => h.cell (by simp) (by simp)
  have k2 : ∀ w, Keeps (w1.alloc (.cells #[.int .i64 23, .int .i64 127, .int .u32 255] 41)) w → w.cell? ⟨w1.heap.size, 2, none⟩ = some (.int .u32 255) := fun w h => h.cell (by simp) (by simp)
  refine region_w (C := Keeps (w1.alloc (.cells #[.int .i64 23, .int .i64 127, .int .u32 255] 41))) (by kernel_rfl) (by kernel_rfl) (Keeps.drew _) ?_
  (iterate 9
    (apply wq_go _ (by rfl)
     · intro wq hq
       go_simp
       first
         | (go_at_call 28; exact qsame hq (LN _))
         | exact rfl
     simp only [Act.put, List.setIfInBounds_toArray, List.set_cons_succ, List.set_cons_zero]))
  refine wq_nil ?_
  intro w2 hk
  have q0 := k0 _ hk
  have q1 := k1 _ hk
  have q2 := k2 _ hk
  have hb := hk.below
  clear k0 k1 k2 v5 v6 hk
  go_wp2
  go_ret2
  refine ⟨rfl, ?_⟩
  ((repeat (first | refine bel_alloc ?_ _ | refine bel_dN ?_ _ | refine Below.drew ?_ | refine Below.setCell ?_ (by first | (simp; done) | (simp; omega)) _)); refine bel_step ?_ hb; (repeat (first | refine bel_alloc ?_ _ | refine bel_dN ?_ _ | refine Below.drew ?_ | refine Below.setCell ?_ (by first | (simp; done) | (simp; omega)) _)); refine bel_step ?_ B1; (repeat (first | refine bel_alloc ?_ _ | refine bel_dN ?_ _ | refine Below.drew ?_ | refine Below.setCell ?_ (by first | (simp; done) | (simp; omega)) _)); exact Below.refl _ _)

set_option maxHeartbeats 1000000 in
theorem rfImplLow16 (neg : Bool) (m : Nat) (e : Int) (more : Bool) (hmm : m < 18446744073709551616) (h1 : m < 1152921504606846976) (h2 : ¬ -1000 ≤ e) (w : World) :
    Calls Try.prog 12 #[.int .i64 16, .bool neg, .int .u64 (m : Int), .int .i64 e, .bool more] w fun x w' => x = .returned (.tuple #[.int .u32 0, .bool false]) ∧ Below w.heap.size w w' := by
  have LN := len64F m hmm
  generalize Lib.bitLen m = n at *
  obtain ⟨M, hM⟩ : ∃ M : Int, (m : Int) = M := ⟨_, rfl⟩
  rw [hM] at LN ⊢
  have c1 : M < 1152921504606846976 := by omega
  clear h1 hM
  have v5 : IntKind.i64.wrap (10 + 3) = 10 + 3 := by rw [IntKind.wrap_i64]; omega
  have v6 : IntKind.i64.wrap 13 = 13 := by rw [IntKind.wrap_i64]; omega
  go_enter Try.func12, Try.ntmps12
  go_wp2_with fail
  refine (form16 _).mono ?_
  rintro e' w1 ⟨rfl, B1⟩
  go_wp2
  go_ret2
  refine ⟨rfl, ?_⟩
  ((repeat (first | refine bel_alloc ?_ _ | refine bel_dN ?_ _ | refine Below.drew ?_ | refine Below.setCell ?_ (by first | (simp; done) | (simp; omega)) _)); refine bel_step ?_ B1; (repeat (first | refine bel_alloc ?_ _ | refine bel_dN ?_ _ | refine Below.drew ?_ | refine Below.setCell ?_ (by first | (simp; done) | (simp; omega)) _)); exact Below.refl _ _)

set_option maxHeartbeats 1000000 in
theorem rfImplLow32 (neg : Bool) (m : Nat) (e : Int) (more : Bool) (hmm : m < 18446744073709551616) (h1 : m < 1152921504606846976) (h2 : ¬ -1000 ≤ e) (w : World) :
    Calls Try.prog 12 #[.int .i64 32, .bool neg, .int .u64 (m : Int), .int .i64 e, .bool more] w fun x w' => x = .returned (.tuple #[.int .u32 0, .bool false]) ∧ Below w.heap.size w w' := by
  have LN := len64F m hmm
  generalize Lib.bitLen m = n at *
  obtain ⟨M, hM⟩ : ∃ M : Int, (m : Int) = M := ⟨_, rfl⟩
  rw [hM] at LN ⊢
  have c1 : M < 1152921504606846976 := by omega
  clear h1 hM
  have v5 : IntKind.i64.wrap (23 + 3) = 23 + 3 := by rw [IntKind.wrap_i64]; omega
  have v6 : IntKind.i64.wrap 26 = 26 := by rw [IntKind.wrap_i64]; omega
  go_enter Try.func12, Try.ntmps12
  go_wp2_with fail
  refine (form32 _).mono ?_
  rintro e' w1 ⟨rfl, B1⟩
  go_wp2
  go_ret2
  refine ⟨rfl, ?_⟩
  ((repeat (first | refine bel_alloc ?_ _ | refine bel_dN ?_ _ | refine Below.drew ?_ | refine Below.setCell ?_ (by first | (simp; done) | (simp; omega)) _)); refine bel_step ?_ B1; (repeat (first | refine bel_alloc ?_ _ | refine bel_dN ?_ _ | refine Below.drew ?_ | refine Below.setCell ?_ (by first | (simp; done) | (simp; omega)) _)); exact Below.refl _ _)

set_option maxHeartbeats 1000000 in
theorem rfImplHigh16 (neg : Bool) (m : Nat) (e : Int) (more : Bool) (hmm : m < 18446744073709551616) (h1 : m < 1152921504606846976) (h2 : -1000 ≤ e) (h3 : ¬ e ≤ 1000) (w : World) :
    Calls Try.prog 12 #[.int .i64 16, .bool neg, .int .u64 (m : Int), .int .i64 e, .bool more] w fun x w' => x = .returned (.tuple #[.int .u32 0, .bool false]) ∧ Below w.heap.size w w' := by
  have LN := len64F m hmm
  generalize Lib.bitLen m = n at *
  obtain ⟨M, hM⟩ : ∃ M : Int, (m : Int) = M := ⟨_, rfl⟩
  rw [hM] at LN ⊢
  have c1 : M < 1152921504606846976 := by omega
  clear h1 hM
  have v5 : IntKind.i64.wrap (10 + 3) = 10 + 3 := by rw [IntKind.wrap_i64]; omega
  have v6 : IntKind.i64.wrap 13 = 13 := by rw [IntKind.wrap_i64]; omega
  go_enter Try.func12, Try.ntmps12
  go_wp2_with fail
  refine (form16 _).mono ?_
  rintro e' w1 ⟨rfl, B1⟩
  go_wp2
  go_ret2
  refine ⟨rfl, ?_⟩
  ((repeat (first | refine bel_alloc ?_ _ | refine bel_dN ?_ _ | refine Below.drew ?_ | refine Below.setCell ?_ (by first | (simp; done) | (simp; omega)) _)); refine bel_step ?_ B1; (repeat (first | refine bel_alloc ?_ _ | refine bel_dN ?_ _ | refine Below.drew ?_ | refine Below.setCell ?_ (by first | (simp; done) | (simp; omega)) _)); exact Below.refl _ _)

set_option maxHeartbeats 1000000 in
theorem rfImplHigh32 (neg : Bool) (m : Nat) (e : Int) (more : Bool) (hmm : m < 18446744073709551616) (h1 : m < 1152921504606846976) (h2 : -1000 ≤ e) (h3 : ¬ e ≤ 1000) (w : World) :
    Calls Try.prog 12 #[.int .i64 32, .bool neg, .int .u64 (m : Int), .int .i64 e, .bool more] w fun x w' => x = .returned (.tuple #[.int .u32 0, .bool false]) ∧ Below w.heap.size w w' := by
  have LN := len64F m hmm
  generalize Lib.bitLen m = n at *
  obtain ⟨M, hM⟩ : ∃ M : Int, (m : Int) = M := ⟨_, rfl⟩
  rw [hM] at LN ⊢
  have c1 : M < 1152921504606846976 := by omega
  clear h1 hM
  have v5 : IntKind.i64.wrap (23 + 3) = 23 + 3 := by rw [IntKind.wrap_i64]; omega
  have v6 : IntKind.i64.wrap 26 = 26 := by rw [IntKind.wrap_i64]; omega
  go_enter Try.func12, Try.ntmps12
  go_wp2_with fail
  refine (form32 _).mono ?_
  rintro e' w1 ⟨rfl, B1⟩
  go_wp2
  go_ret2
  refine ⟨rfl, ?_⟩
  ((repeat (first | refine bel_alloc ?_ _ | refine bel_dN ?_ _ | refine Below.drew ?_ | refine Below.setCell ?_ (by first | (simp; done) | (simp; omega)) _)); refine bel_step ?_ B1; (repeat (first | refine bel_alloc ?_ _ | refine bel_dN ?_ _ | refine Below.drew ?_ | refine Below.setCell ?_ (by first | (simp; done) | (simp; omega)) _)); exact Below.refl _ _)

set_option maxHeartbeats 1000000 in
theorem rfImplBig16 (neg : Bool) (m : Nat) (e : Int) (more : Bool) (hmm : m < 18446744073709551616) (h1 : ¬ m < 1152921504606846976) (w : World) :
    Calls Try.prog 12 #[.int .i64 16, .bool neg, .int .u64 (m : Int), .int .i64 e, .bool more] w fun x w' => x = .returned (.tuple #[.int .u32 0, .bool false]) ∧ Below w.heap.size w w' := by
  have LN := len64F m hmm
  generalize Lib.bitLen m = n at *
  obtain ⟨M, hM⟩ : ∃ M : Int, (m : Int) = M := ⟨_, rfl⟩
  rw [hM] at LN ⊢
  have c1 : 1152921504606846976 ≤ M := by omega
  clear h1 hM
  have v5 : IntKind.i64.wrap (10 + 3) = 10 + 3 := by rw [IntKind.wrap_i64]; omega
  have v6 : IntKind.i64.wrap 13 = 13 := by rw [IntKind.wrap_i64]; omega
  go_enter Try.func12, Try.ntmps12
  go_wp2_with fail
  refine (form16 _).mono ?_
  rintro e' w1 ⟨rfl, B1⟩
  go_wp2
  go_ret2
  refine ⟨rfl, ?_⟩
  ((repeat (first | refine bel_alloc ?_ _ | refine bel_dN ?_ _ | refine Below.drew ?_ | refine Below.setCell ?_ (by first | (simp; done) | (simp; omega)) _)); refine bel_step ?_ B1; (repeat (first | refine bel_alloc ?_ _ | refine bel_dN ?_ _ | refine Below.drew ?_ | refine Below.setCell ?_ (by first | (simp; done) | (simp; omega)) _)); exact Below.refl _ _)

set_option maxHeartbeats 1000000 in
theorem rfImplBig32 (neg : Bool) (m : Nat) (e : Int) (more : Bool) (hmm : m < 18446744073709551616) (h1 : ¬ m < 1152921504606846976) (w : World) :
    Calls Try.prog 12 #[.int .i64 32, .bool neg, .int .u64 (m : Int), .int .i64 e, .bool more] w fun x w' => x = .returned (.tuple #[.int .u32 0, .bool false]) ∧ Below w.heap.size w w' := by
  have LN := len64F m hmm
  generalize Lib.bitLen m = n at *
  obtain ⟨M, hM⟩ : ∃ M : Int, (m : Int) = M := ⟨_, rfl⟩
  rw [hM] at LN ⊢
  have c1 : 1152921504606846976 ≤ M := by omega
  clear h1 hM
  have v5 : IntKind.i64.wrap (23 + 3) = 23 + 3 := by rw [IntKind.wrap_i64]; omega
  have v6 : IntKind.i64.wrap 26 = 26 := by rw [IntKind.wrap_i64]; omega
  go_enter Try.func12, Try.ntmps12
  go_wp2_with fail
  refine (form32 _).mono ?_
  rintro e' w1 ⟨rfl, B1⟩
  go_wp2
  go_ret2
  refine ⟨rfl, ?_⟩
  ((repeat (first | refine bel_alloc ?_ _ | refine bel_dN ?_ _ | refine Below.drew ?_ | refine Below.setCell ?_ (by first | (simp; done) | (simp; omega)) _)); refine bel_step ?_ B1; (repeat (first | refine bel_alloc ?_ _ | refine bel_dN ?_ _ | refine Below.drew ?_ | refine Below.setCell ?_ (by first | (simp; done) | (simp; omega)) _)); exact Below.refl _ _)

theorem rfBoth16 (neg : Bool) (m : Nat) (e : Int) (more : Bool) (hmm : m < 18446744073709551616) : ∃ (r : Int) (ok : Bool),
    (∀ w, Calls Try.prog 11 #[.int .i64 16, .bool neg, .int .u64 (m : Int), .int .i64 e, .bool more] w fun x w' => x = .returned (.tuple #[.int .u32 r, .bool ok]) ∧ Below w.heap.size w w') ∧
    (∀ w, Calls Try.prog 12 #[.int .i64 16, .bool neg, .int .u64 (m : Int), .int .i64 e, .bool more] w fun x w' => x = .returned (.tuple #[.int .u32 r, .bool ok]) ∧ Below w.heap.size w w') := by
  by_cases h1 : m < 1152921504606846976
  · by_cases h2 : -1000 ≤ e
    · by_cases h3 : e ≤ 1000
      · cases hm : more
        · exact ⟨_, _, rfSpecPlain16 neg m e false hmm h1 h2 h3 rfl, rfImplPlain16 neg m e false hmm h1 h2 h3 rfl⟩
        · by_cases h5 : 13 ≤ Lib.bitLen m
          · exact ⟨_, _, rfSpecMore16 neg m e true hmm h1 h2 h3 rfl h5, rfImplMore16 neg m e true hmm h1 h2 h3 rfl h5⟩
          · exact ⟨_, _, rfSpecShort16 neg m e true hmm h1 h2 h3 rfl h5, rfImplShort16 neg m e true hmm h1 h2 h3 rfl h5⟩
      · exact ⟨_, _, rfSpecExp16 neg m e more hmm h1 (fun h => h3 h.2), rfImplHigh16 neg m e more hmm h1 h2 h3⟩
    · exact ⟨_, _, rfSpecExp16 neg m e more hmm h1 (fun h => h2 h.1), rfImplLow16 neg m e more hmm h1 h2⟩
  · exact ⟨_, _, rfSpecBig16 neg m e more hmm h1, rfImplBig16 neg m e more hmm h1⟩

theorem rfBoth32 (neg : Bool) (m : Nat) (e : Int) (more : Bool) (hmm : m < 18446744073709551616) : ∃ (r : Int) (ok : Bool),
    (∀ w, Calls Try.prog 11 #[.int .i64 32, .bool neg, .int .u64 (m : Int), .int .i64 e, .bool more] w fun x w' => x = .returned (.tuple #[.int .u32 r, .bool ok]) ∧ Below w.heap.size w w') ∧
    (∀ w, Calls Try.prog 12 #[.int .i64 32, .bool neg, .int .u64 (m : Int), .int .i64 e, .bool more] w fun x w' => x = .returned (.tuple #[.int .u32 r, .bool ok]) ∧ Below w.heap.size w w') := by
  by_cases h1 : m < 1152921504606846976
  · by_cases h2 : -1000 ≤ e
    · by_cases h3 : e ≤ 1000
      · cases hm : more
        · exact ⟨_, _, rfSpecPlain32 neg m e false hmm h1 h2 h3 rfl, rfImplPlain32 neg m e false hmm h1 h2 h3 rfl⟩
        · by_cases h5 : 26 ≤ Lib.bitLen m
          · exact ⟨_, _, rfSpecMore32 neg m e true hmm h1 h2 h3 rfl h5, rfImplMore32 neg m e true hmm h1 h2 h3 rfl h5⟩
          · exact ⟨_, _, rfSpecShort32 neg m e true hmm h1 h2 h3 rfl h5, rfImplShort32 neg m e true hmm h1 h2 h3 rfl h5⟩
      · exact ⟨_, _, rfSpecExp32 neg m e more hmm h1 (fun h => h3 h.2), rfImplHigh32 neg m e more hmm h1 h2 h3⟩
    · exact ⟨_, _, rfSpecExp32 neg m e more hmm h1 (fun h => h2 h.1), rfImplLow32 neg m e more hmm h1 h2⟩
  · exact ⟨_, _, rfSpecBig32 neg m e more hmm h1, rfImplBig32 neg m e more hmm h1⟩

theorem rfSpecNo (kind : Int) (neg : Bool) (m e : Int) (more : Bool) (h1 : kind ≠ 16) (h2 : kind ≠ 32) (w : World) :
    Calls Try.prog 11 #[.int .i64 kind, .bool neg, .int .u64 m, .int .i64 e, .bool more] w fun x w' => x = .returned (.tuple #[.int .u32 0, .bool false]) ∧ Below w.heap.size w w' := by
  go_enter Try.func11, Try.ntmps11
  go_wp2_with fail
  refine (l4KindNo kind h1 h2 _).mono ?_
  rintro e' w1 ⟨rfl, B1⟩
  go_wp2_with fail
  refine region_w (C := Keeps (w1.alloc (.cells #[.int .u64 0, .int .u64 0] 34))) (by kernel_rfl) (by kernel_rfl) (Keeps.drew _) ?_
  (iterate 3
    (apply wq_go _ (by rfl)
     · intro wq hq
       go_simp
       first
         | exact rfl
     simp only [Act.put, List.setIfInBounds_toArray, List.set_cons_succ, List.set_cons_zero]))
  (iterate 2 (refine wq_no (by rfl) ?_; simp only [Act.put, List.setIfInBounds_toArray, List.set_cons_succ, List.set_cons_zero]))
  (iterate 2
    (apply wq_go _ (by rfl)
     · intro wq hq
       go_simp
       first
         | exact rfl
     simp only [Act.put, List.setIfInBounds_toArray, List.set_cons_succ, List.set_cons_zero]))
  (iterate 3 (refine wq_no (by rfl) ?_; simp only [Act.put, List.setIfInBounds_toArray, List.set_cons_succ, List.set_cons_zero]))
  (iterate 2
    (apply wq_go _ (by rfl)
     · intro wq hq
       go_simp
       first
         | exact rfl
     simp only [Act.put, List.setIfInBounds_toArray, List.set_cons_succ, List.set_cons_zero]))
  (iterate 10 (refine wq_no (by rfl) ?_; simp only [Act.put, List.setIfInBounds_toArray, List.set_cons_succ, List.set_cons_zero]))
  (iterate 1
    (apply wq_go _ (by rfl)
     · intro wq hq
       go_simp
       first
         | exact rfl
     simp only [Act.put, List.setIfInBounds_toArray, List.set_cons_succ, List.set_cons_zero]))
  refine wq_nil ?_
  intro w2 hk
  have hb := hk.below
  go_wp2
  go_ret2
  refine ⟨rfl, ?_⟩
  ((repeat (first | refine bel_alloc ?_ _ | refine bel_dN ?_ _ | refine Below.drew ?_ | refine Below.setCell ?_ (by first | (simp; done) | (simp; omega)) _)); refine bel_step ?_ hb; (repeat (first | refine bel_alloc ?_ _ | refine bel_dN ?_ _ | refine Below.drew ?_ | refine Below.setCell ?_ (by first | (simp; done) | (simp; omega)) _)); refine bel_step ?_ B1; (repeat (first | refine bel_alloc ?_ _ | refine bel_dN ?_ _ | refine Below.drew ?_ | refine Below.setCell ?_ (by first | (simp; done) | (simp; omega)) _)); exact Below.refl _ _)

theorem rfImplNo (kind : Int) (neg : Bool) (m e : Int) (more : Bool) (h1 : kind ≠ 16) (h2 : kind ≠ 32) (w : World) :
    Calls Try.prog 12 #[.int .i64 kind, .bool neg, .int .u64 m, .int .i64 e, .bool more] w fun x w' => x = .returned (.tuple #[.int .u32 0, .bool false]) ∧ Below w.heap.size w w' := by
  go_enter Try.func12, Try.ntmps12
  go_wp2_with fail
  refine (formNo kind h1 h2 _).mono ?_
  rintro e' w1 ⟨rfl, B1⟩
  go_wp2
  go_ret2
  refine ⟨rfl, ?_⟩
  ((repeat (first | refine bel_alloc ?_ _ | refine bel_dN ?_ _ | refine Below.drew ?_ | refine Below.setCell ?_ (by first | (simp; done) | (simp; omega)) _)); refine bel_step ?_ B1; (repeat (first | refine bel_alloc ?_ _ | refine bel_dN ?_ _ | refine Below.drew ?_ | refine Below.setCell ?_ (by first | (simp; done) | (simp; omega)) _)); exact Below.refl _ _)

theorem rfAny (kind : Int) (neg : Bool) (m e : Int) (more : Bool) (m0 : 0 ≤ m) (m1 : m ≤ 18446744073709551615) : ∃ (r : Int) (ok : Bool),
    (∀ w, Calls Try.prog 11 #[.int .i64 kind, .bool neg, .int .u64 m, .int .i64 e, .bool more] w fun x w' => x = .returned (.tuple #[.int .u32 r, .bool ok]) ∧ Below w.heap.size w w') ∧
    (∀ w, Calls Try.prog 12 #[.int .i64 kind, .bool neg, .int .u64 m, .int .i64 e, .bool more] w fun x w' => x = .returned (.tuple #[.int .u32 r, .bool ok]) ∧ Below w.heap.size w w') := by
  obtain ⟨n, rfl⟩ := Int.eq_ofNat_of_zero_le m0
  by_cases hk : kind = 16
  · subst hk
    exact rfBoth16 neg n e more (by omega)
  · by_cases hk2 : kind = 32
    · subst hk2
      exact rfBoth32 neg n e more (by omega)
    · exact ⟨_, _, rfSpecNo kind neg n e more hk hk2, rfImplNo kind neg n e more hk hk2⟩

theorem rf_walk (a0 : Int) (a1 : Bool) (a2 a3 : Int) (a4 : Bool) (_w0 : (Lit.int .i64 a0).wf = true) (w2 : (Lit.int .u64 a2).wf = true) (_w3 : (Lit.int .i64 a3).wf = true) (w : World) :
    Calls Try.prog 4 #[.int .i64 a0, .bool a1, .int .u64 a2, .int .i64 a3, .bool a4] w fun e w' => e = .returned (.bool true) ∧ Below w.heap.size w w' := by
  have hb := bounds_u64 w2
  obtain ⟨r, ok, S, I⟩ := rfAny a0 a1 a2 a3 a4 (by omega) (by omega)
  clear w2 hb
  go_enter Try.func4, Try.ntmps4
  go_wp2_with fail
  refine (S _).mono ?_
  rintro e' w1 ⟨rfl, B1⟩
  go_wp2_with fail
  refine (I _).mono ?_
  rintro e' w2 ⟨rfl, B2⟩
  clear S I
  go_wp2
  go_ret
  refine ⟨rfl, ?_⟩
  ((repeat (first | refine bel_alloc ?_ _ | refine bel_dN ?_ _ | refine Below.drew ?_ | refine Below.setCell ?_ (by first | (simp; done) | (simp; omega)) _)); refine bel_step ?_ B2; (repeat (first | refine bel_alloc ?_ _ | refine bel_dN ?_ _ | refine Below.drew ?_ | refine Below.setCell ?_ (by first | (simp; done) | (simp; omega)) _)); refine bel_step ?_ B1; (repeat (first | refine bel_alloc ?_ _ | refine bel_dN ?_ _ | refine Below.drew ?_ | refine Below.setCell ?_ (by first | (simp; done) | (simp; omega)) _)); exact Below.refl _ _)

end Go.Proofs.Yteimfjiaifbloaa
