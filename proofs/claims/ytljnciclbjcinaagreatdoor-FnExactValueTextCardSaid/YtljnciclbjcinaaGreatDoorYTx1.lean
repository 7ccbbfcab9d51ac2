/-
  Texts of types: a plain model; numbers in digits, the specification's side.
-/
import Derived.Test.YtljnciclbjcinaaGreatDoorYPw
import Derived.Test.YtljnciclbjcinaaGreatDoorYSh
import Derived.Test.YtljnciclbjcinaaGreatDoorQPick
namespace Go.Proofs.YtljnciclbjcinaaGreatDoor
open Go.ChangeShapes Go.WideShapes Go.ChangeAt Go.RowKit

theorem oneStr (d : Nat) (hd : d < 256) (N : Nat) (W : World) (hc : W.cell? ⟨N, 0, none⟩ = some (.int .u8 (d : Int))) : (convert 67 9 (.slice (some ⟨N, 0, none⟩) 1 1)).run Tryz.prog W = .ok (.string ⟨#[UInt8.ofNat d]⟩) W := by
  refine run_convert_bytes_back W 67 9 5 ⟨N, 0, none⟩ 1 [UInt8.ofNat d] Tryz.underlying67 Tryz.underlying5 Tryz.underlying9 fun j hj => ?_
  have : j = 0 := by simp at hj; omega
  subst this
  rw [Addr.add_lit, hc]
  have : (UInt8.ofNat d).toNat = d := by simp; omega
  simp [this]

theorem dec_small {u : Nat} (h : u < 10) : Lib.decDigits u = [UInt8.ofNat (48 + u)] := by
  unfold Lib.decDigits; rw [dif_pos h]
theorem dec_len : ∀ (n u : Nat), u ≤ n → (Lib.decDigits u).length ≤ u + 1
  | 0, u, h => by rw [dec_small (by omega)]; simp
  | n + 1, u, h => by
    by_cases h10 : u < 10
    · rw [dec_small h10]; simp
    · have := dec_len n (u / 10) (by omega)
      unfold Lib.decDigits
      rw [dif_neg h10, List.length_append]
      simp
      omega
theorem dec_more {u : Nat} (h : ¬ u < 10) : Lib.decDigits u = Lib.decDigits (u / 10) ++ [UInt8.ofNat (48 + u % 10)] := by
  conv => lhs; unfold Lib.decDigits
  rw [dif_neg h]

set_option maxRecDepth 100000 in
set_option maxHeartbeats 3200000 in
theorem specNum_small (u : Nat) (h : u < 10) (w : World) : Calls Tryz.prog 41 #[.int .i64 (u : Int)] w fun e w' => e = .returned (.string ⟨(Lib.decDigits u).toArray⟩) ∧ Below w.heap.size w w' := by
  rw [dec_small h]
  obtain ⟨d, hd⟩ : ∃ d : Nat, 48 + u = d := ⟨_, rfl⟩
  rw [hd]
  have hw8 : IntKind.u8.wrap (48 + (u : Int)) = (d : Int) := by rw [IntKind.wrap_u8]; omega
  have hcv := oneStr d (by omega) w.heap.size (w.alloc (.cells #[.int .u8 (d : Int)] 5)) (newCell rfl rfl)
  clear hd
  have n0 : ¬ (u : Int) < 0 := by omega
  have n1 : (u : Int) < 10 := by omega
  go_enter Tryz.func41, Tryz.ntmps41
  go_wp2
  go_ret
  exact ⟨rfl, (Below.refl _ _).alloc (Nat.le_refl _) _⟩

set_option maxRecDepth 100000 in
set_option maxHeartbeats 6400000 in
theorem specNum_more (u : Nat) (h : ¬ u < 10) (hu : u ≤ 1000000) (ih : ∀ W : World, Calls Tryz.prog 41 #[.int .i64 ((u / 10 : Nat) : Int)] W fun e w' => e = .returned (.string ⟨(Lib.decDigits (u / 10)).toArray⟩) ∧ Below W.heap.size W w') (w : World) :
    Calls Tryz.prog 41 #[.int .i64 (u : Int)] w fun e w' => e = .returned (.string ⟨(Lib.decDigits u).toArray⟩) ∧ Below w.heap.size w w' := by
  have hq : (⟨(Lib.decDigits u).toArray⟩ : ByteArray) = ⟨(Lib.decDigits (u / 10)).toArray⟩ ++ ⟨#[UInt8.ofNat (48 + u % 10)]⟩ := by
    rw [dec_more h]; apply ByteArray.ext; simp
  obtain ⟨R, hR⟩ : ∃ R : ByteArray, (⟨(Lib.decDigits u).toArray⟩ : ByteArray) = R := ⟨_, rfl⟩
  rw [hR] at hq ⊢
  have HU : Hid (∀ W : World, Calls Tryz.prog 41 #[.int .i64 ((u / 10 : Nat) : Int)] W fun e w' => e = .returned (.string ⟨(Lib.decDigits (u / 10)).toArray⟩) ∧ Below W.heap.size W w') := ih
  have HC1 : Hid (∀ (N : Nat) (W : World), W.cell? ⟨N, 0, none⟩ = some (.int .u8 ((48 + u % 10 : Nat) : Int)) → (convert 67 9 (.slice (some ⟨N, 0, none⟩) 1 1)).run Tryz.prog W = .ok (.string ⟨#[UInt8.ofNat (48 + u % 10)]⟩) W) := fun N W h => oneStr _ (by omega) N W h
  have HQ : Hid (⟨(Lib.decDigits (u / 10)).toArray⟩ ++ ⟨#[UInt8.ofNat (48 + u % 10)]⟩ = R) := hq.symm
  obtain ⟨Z, hZ⟩ : ∃ Z : ByteArray, ⟨#[UInt8.ofNat (48 + u % 10)]⟩ = Z := ⟨_, rfl⟩
  obtain ⟨Q, hQ⟩ : ∃ Q : ByteArray, (⟨(Lib.decDigits (u / 10)).toArray⟩ : ByteArray) = Q := ⟨_, rfl⟩
  rw [hZ] at HC1 HQ
  rw [hQ] at HU HQ
  have zs : Z.size = 1 := by rw [← hZ]; rfl
  have qs : Q.size ≤ 1000001 := by rw [← hQ]; show (Lib.decDigits (u / 10)).toArray.size ≤ _; have := dec_len (u / 10) (u / 10) (Nat.le_refl _); simp; omega
  obtain ⟨r, hr⟩ : ∃ r : Nat, u % 10 = r := ⟨_, rfl⟩
  have hr10 : r < 10 := by omega
  rw [hr] at HC1
  obtain ⟨d, hd⟩ : ∃ d : Nat, 48 + r = d := ⟨_, rfl⟩
  rw [hd] at HC1
  obtain ⟨v, hv⟩ : ∃ v : Nat, u / 10 = v := ⟨_, rfl⟩
  rw [hv] at HU
  have k1 : Int.tdiv (u : Int) 10 = (v : Int) := by rw [← hv]; rfl
  have k2 : Int.tmod (u : Int) 10 = (r : Int) := by rw [← hr]; rfl
  have k3 : IntKind.u8.wrap (48 + (r : Int)) = (d : Int) := by rw [IntKind.wrap_u8]; omega
  have k4 : IntKind.i64.wrap (48 + (r : Int)) = 48 + (r : Int) := by rw [IntKind.wrap_i64]; omega
  have k5 : IntKind.i64.wrap (v : Int) = (v : Int) := by rw [IntKind.wrap_i64]; omega
  have k6 : IntKind.i64.wrap (r : Int) = (r : Int) := by rw [IntKind.wrap_i64]; omega
  have n0 : ¬ (u : Int) < 0 := by omega
  have n1 : ¬ (u : Int) < 10 := by omega
  clear hq hZ hQ ih hR hd hv hr
  go_enter Tryz.func41, Tryz.ntmps41
  go_wp2_with fail
  refine wh_begin (fun _ => True) (by kernel_rfl) ?_
  refine wh_take 0 (some 18) (.int .i64 (u : Int)) rfl rfl (by kernel_rfl) (by kernel_rfl) (by kernel_rfl) (fun _ _ _ h => h) trivial (by rfl) (fun w' hS => by first | rfl | (go_simp; done) | (go_simp; omega)) ?_
  simp only [Act.put, List.setIfInBounds_toArray, List.set_cons_zero, List.set_cons_succ]
  refine wh_take 1 (some 19) (.int .i64 (v : Int)) rfl rfl (by kernel_rfl) (by kernel_rfl) (by kernel_rfl) (fun _ _ _ h => h) trivial (by rfl) (fun w' hS => by first | rfl | (go_simp; done) | (go_simp; omega)) ?_
  simp only [Act.put, List.setIfInBounds_toArray, List.set_cons_zero, List.set_cons_succ]
  refine wh_take 3 (some 21) (.int .i64 (u : Int)) rfl rfl (by kernel_rfl) (by kernel_rfl) (by kernel_rfl) (fun _ _ _ h => h) trivial (by rfl) (fun w' hS => by first | rfl | (go_simp; done) | (go_simp; omega)) ?_
  simp only [Act.put, List.setIfInBounds_toArray, List.set_cons_zero, List.set_cons_succ]
  refine wh_take 4 (some 22) (.int .i64 (r : Int)) rfl rfl (by kernel_rfl) (by kernel_rfl) (by kernel_rfl) (fun _ _ _ h => h) trivial (by rfl) (fun w' hS => by first | rfl | (go_simp; done) | (go_simp; omega)) ?_
  simp only [Act.put, List.setIfInBounds_toArray, List.set_cons_zero, List.set_cons_succ]
  refine wh_take 5 (some 23) (.int .i64 (48 + (r : Int))) rfl rfl (by kernel_rfl) (by kernel_rfl) (by kernel_rfl) (fun _ _ _ h => h) trivial (by rfl) (fun w' hS => by first | rfl | (go_simp; done) | (go_simp; omega)) ?_
  simp only [Act.put, List.setIfInBounds_toArray, List.set_cons_zero, List.set_cons_succ]
  refine wh_take 6 (some 24) (.int .u8 (d : Int)) rfl rfl (by kernel_rfl) (by kernel_rfl) (by kernel_rfl) (fun _ _ _ h => h) trivial (by rfl) (fun w' hS => by first | rfl | (go_simp; done) | (go_simp; omega)) ?_
  simp only [Act.put, List.setIfInBounds_toArray, List.set_cons_zero, List.set_cons_succ]
  refine wh_two 2 7 (by kernel_rfl) ?_ ?_
  · refine wo_call (some 20) 41 #[.int .i64 (v : Int)] rfl rfl (by rfl) (by kernel_rfl) ?_
    refine (HU.out _).mono ?_
    rintro e VB ⟨rfl, hbB⟩
    have hbV : Below w.heap.size w VB := ⟨hbB.os, hbB.tape, hbB.output, hbB.size, hbB.block⟩
    refine ⟨_, rfl, trivial, ?_⟩
    simp only [Act.put, List.setIfInBounds_toArray, List.set_cons_zero, List.set_cons_succ]
    have hNA : (VB.alloc (.cells #[.int .u8 (d : Int)] 5)).heap[VB.heap.size]? = some (.cells #[.int .u8 (d : Int)] 5 (0, 0)) := heap_alloc_new _ _
    have hbA : Below w.heap.size w (VB.alloc (.cells #[.int .u8 (d : Int)] 5)) := hbV.alloc hbV.size _
    refine wh_val 7 (some 25) (.slice (some ⟨VB.heap.size, 0, none⟩) 1 1) (VB.alloc (.cells #[.int .u8 (d : Int)] 5)) (by kernel_rfl) rfl rfl (by rfl) (by first | rfl | go_simp) trivial ?_
    simp only [Act.put, List.setIfInBounds_toArray, List.set_cons_zero, List.set_cons_succ]
    generalize VB.alloc (.cells #[.int .u8 (d : Int)] 5) = VA at hNA hbA ⊢
    generalize VB.heap.size = N at hNA ⊢
    have hcA := HC1.out N VA ((cell_of_block hNA 0).trans rfl)
    refine wh_val 8 (some 26) (.string Z) VA (by kernel_rfl) rfl rfl (by rfl) (by first | rfl | go_simp) trivial ?_
    simp only [Act.put, List.setIfInBounds_toArray, List.set_cons_zero, List.set_cons_succ]
    refine wh_take 9 (some 27) (.string (Q ++ Z)) rfl rfl (by kernel_rfl) (by kernel_rfl) (by kernel_rfl) (fun _ _ _ h => h) trivial (by rfl) (fun w' hS => by first | rfl | (go_simp; done) | (go_simp; omega)) ?_
    simp only [Act.put, List.setIfInBounds_toArray, List.set_cons_zero, List.set_cons_succ]
    refine wh_val 10 (some 2) (.string (Q ++ Z)) VA (by kernel_rfl) rfl rfl (by rfl) (by first | rfl | go_simp) trivial ?_
    simp only [Act.put, List.setIfInBounds_toArray, List.set_cons_zero, List.set_cons_succ]
    refine wh_done (by kernel_rfl) ?_
    have HE : Hid (Below w.heap.size w VA) := hbA
    clear HU HC1
    go_wp2
    go_ret
    exact ⟨by rw [← HQ.out]; rfl, HE.out⟩
  · have hNA : (w.drew.alloc (.cells #[.int .u8 (d : Int)] 5)).heap[w.drew.heap.size]? = some (.cells #[.int .u8 (d : Int)] 5 (0, 0)) := heap_alloc_new _ _
    have hbA : Below w.heap.size w (w.drew.alloc (.cells #[.int .u8 (d : Int)] 5)) := ((Below.refl w.heap.size w).drew).alloc (Nat.le_refl _) _
    refine wo_val (some 25) (.slice (some ⟨w.drew.heap.size, 0, none⟩) 1 1) (w.drew.alloc (.cells #[.int .u8 (d : Int)] 5)) rfl rfl (by rfl) (by first | rfl | go_simp) trivial ?_
    simp only [Act.put, List.setIfInBounds_toArray, List.set_cons_zero, List.set_cons_succ]
    generalize w.drew.alloc (.cells #[.int .u8 (d : Int)] 5) = VA at hNA hbA ⊢
    generalize w.drew.heap.size = N at hNA ⊢
    have hcA := HC1.out N VA ((cell_of_block hNA 0).trans rfl)
    refine wh_two 2 8 (by kernel_rfl) ?_ ?_
    · refine wo_call (some 20) 41 #[.int .i64 (v : Int)] rfl rfl (by rfl) (by kernel_rfl) ?_
      refine (HU.out _).mono ?_
      rintro e VB ⟨rfl, hbB⟩
      have hbV : Below w.heap.size w VB := below2 hbA hbB
      have hNB := (hbB.block N (lt_of_block hNA)).trans hNA
      have hcB := HC1.out N VB ((cell_of_block hNB 0).trans rfl)
      refine ⟨_, rfl, trivial, ?_⟩
      simp only [Act.put, List.setIfInBounds_toArray, List.set_cons_zero, List.set_cons_succ]
      refine wh_val 8 (some 26) (.string Z) VB (by kernel_rfl) rfl rfl (by rfl) (by first | rfl | go_simp) trivial ?_
      simp only [Act.put, List.setIfInBounds_toArray, List.set_cons_zero, List.set_cons_succ]
      refine wh_take 9 (some 27) (.string (Q ++ Z)) rfl rfl (by kernel_rfl) (by kernel_rfl) (by kernel_rfl) (fun _ _ _ h => h) trivial (by rfl) (fun w' hS => by first | rfl | (go_simp; done) | (go_simp; omega)) ?_
      simp only [Act.put, List.setIfInBounds_toArray, List.set_cons_zero, List.set_cons_succ]
      refine wh_val 10 (some 2) (.string (Q ++ Z)) VB (by kernel_rfl) rfl rfl (by rfl) (by first | rfl | go_simp) trivial ?_
      simp only [Act.put, List.setIfInBounds_toArray, List.set_cons_zero, List.set_cons_succ]
      refine wh_done (by kernel_rfl) ?_
      have HE : Hid (Below w.heap.size w VB) := hbV
      clear HU HC1
      go_wp2
      go_ret
      exact ⟨by rw [← HQ.out]; rfl, HE.out⟩
    · refine wo_val (some 26) (.string Z) VA rfl rfl (by rfl) (by first | rfl | go_simp) trivial ?_
      simp only [Act.put, List.setIfInBounds_toArray, List.set_cons_zero, List.set_cons_succ]
      refine wh_call 2 (some 20) 41 #[.int .i64 (v : Int)] (by kernel_rfl) rfl rfl (by rfl) (by kernel_rfl) ?_
      refine (HU.out _).mono ?_
      rintro e VB ⟨rfl, hbB⟩
      have hbV : Below w.heap.size w VB := below2 hbA hbB
      refine ⟨_, rfl, trivial, ?_⟩
      simp only [Act.put, List.setIfInBounds_toArray, List.set_cons_zero, List.set_cons_succ]
      refine wh_take 9 (some 27) (.string (Q ++ Z)) rfl rfl (by kernel_rfl) (by kernel_rfl) (by kernel_rfl) (fun _ _ _ h => h) trivial (by rfl) (fun w' hS => by first | rfl | (go_simp; done) | (go_simp; omega)) ?_
      simp only [Act.put, List.setIfInBounds_toArray, List.set_cons_zero, List.set_cons_succ]
      refine wh_val 10 (some 2) (.string (Q ++ Z)) VB (by kernel_rfl) rfl rfl (by rfl) (by first | rfl | go_simp) trivial ?_
      simp only [Act.put, List.setIfInBounds_toArray, List.set_cons_zero, List.set_cons_succ]
      refine wh_done (by kernel_rfl) ?_
      have HE : Hid (Below w.heap.size w VB) := hbV
      clear HU HC1
      go_wp2
      go_ret
      exact ⟨by rw [← HQ.out]; rfl, HE.out⟩

theorem specNum : ∀ (n u : Nat), u ≤ n → u ≤ 1000000 → ∀ w : World, Calls Tryz.prog 41 #[.int .i64 (u : Int)] w fun e w' => e = .returned (.string ⟨(Lib.decDigits u).toArray⟩) ∧ Below w.heap.size w w'
  | 0, u, h, _, w => specNum_small u (by omega) w
  | n + 1, u, h, hu, w => by
    by_cases h10 : u < 10
    · exact specNum_small u h10 w
    · exact specNum_more u h10 hu (fun W => specNum n (u / 10) (by omega) (by omega) W) w

end Go.Proofs.YtljnciclbjcinaaGreatDoor
