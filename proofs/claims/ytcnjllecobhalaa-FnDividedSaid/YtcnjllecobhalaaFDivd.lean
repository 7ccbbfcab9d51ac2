/-
  What the operations of the law on division answer, held against each other.
-/
import Derived.Test.YtcnjllecobhalaaFDivdM
import Derived.Test.YtcnjllecobhalaaIBoth2
namespace Go.Proofs.Ytcnjllecobhalaa
open Go.RowKit

/-- What one call of the program's Binary tells. -/
def Tells (b op a c r t : Int) : Prop := ∀ w, Calls Try.prog 10 #[.int .i64 b, .int .i64 op, .int .u64 a, .int .u64 c] w fun e w' => e = .returned (.tuple #[.int .u64 r, .int .i64 t]) ∧ Below w.heap.size w w'
def Signs (b a s : Int) : Prop := ∀ w, Calls Try.prog 12 #[.int .i64 b, .int .u64 a] w fun e w' => e = .returned (.tuple #[.int .i64 s, .bool true]) ∧ w' = w
theorem noBits (b op a c : Int) (hb : ¬ (b = 32 ∨ b = 64)) : Tells b op a c 0 3 := fun w => by
  obtain ⟨v, hv⟩ := work_any op
  exact binNoBits b op a c (by omega) (by omega) v hv w
theorem signs (b a : Int) (hb : b = 32 ∨ b = 64) : Signs b a (sgW b a) := fun w => by
  have h := specSignedOf b a w
  have e1 : sgOf b a = sgW b a := by rcases hb with rfl | rfl <;> rfl
  have e2 : (b == 32 || b == 64) = true := by rcases hb with rfl | rfl <;> rfl
  rw [e1, e2] at h
  exact h
/-- What the law finds of a pair of operations: one is refused, or all fits. -/
def Fits (b o1 o2 x y : Int) (lt sg : Bool) : Prop :=
  (∃ q r t1 t2, Tells b o1 x y q t1 ∧ Tells b o2 x y r t2 ∧ ((t1 != 0) = true ∨ ((t1 != 0) = false ∧ (t2 != 0) = true))) ∨
  ∃ q r p l s sx sy, Tells b o1 x y q 0 ∧ Tells b o2 x y r 0 ∧ Tells b 3 q y p 0 ∧ Tells b 1 p r s 0 ∧ Tells b 1 x 0 s 0 ∧ Tells b 19 r y l 0 ∧ Signs b r sx ∧ Signs b x sy ∧ (lt = true → l = 1) ∧ (sg = true → sx = 0 ∨ decide (sx < 0) = decide (sy < 0))
theorem modW_le (b : Int) : modW b ≤ 18446744073709551616 := by unfold modW; split <;> omega
theorem modW_fit (b n : Int) : 0 ≤ n % modW b ∧ n % modW b ≤ 18446744073709551615 ∧ n % modW b < modW b := by
  have h1 := modW_pos b
  have h2 := modW_le b
  have h3 := Int.emod_nonneg n (show modW b ≠ 0 by omega)
  have h4 := Int.emod_lt_of_pos n h1
  omega
/-- The same number, whichever way it is reckoned. -/
theorem tells_whole (b x : Int) (hb : b = 32 ∨ b = 64) (x0 : 0 ≤ x) (x1 : x ≤ 18446744073709551615) : Tells b 1 x 0 (x % modW b) 0 := by
  have h := (both_add b x 0 hb x0 x1 (by omega) (by omega)).2
  have e : cutW b (IntKind.u64.wrap (cutW b x + cutW b 0)) = x % modW b := by
    rw [cutW_wrap b _ hb, cutW_mod b x hb x0 x1, cutW_mod b 0 hb (by omega) (by omega), Int.zero_emod, Int.add_zero, Int.emod_emod_of_dvd _ (Int.dvd_refl _)]
  rw [e] at h
  exact h
theorem tells_mul (b q y : Int) (hb : b = 32 ∨ b = 64) (q0 : 0 ≤ q) (q1 : q ≤ 18446744073709551615) (y0 : 0 ≤ y) (y1 : y ≤ 18446744073709551615) : Tells b 3 q y (q * y % modW b) 0 := by
  have h := (both_mul b q y hb q0 q1 y0 y1).2
  have e : cutW b (IntKind.u64.wrap (cutW b q * cutW b y)) = q * y % modW b := by
    rw [cutW_wrap b _ hb, cutW_mod b q hb q0 q1, cutW_mod b y hb y0 y1, ← Int.mul_emod]
  rw [e] at h
  exact h
theorem tells_add (b p r : Int) (hb : b = 32 ∨ b = 64) (p0 : 0 ≤ p) (p1 : p ≤ 18446744073709551615) (r0 : 0 ≤ r) (r1 : r ≤ 18446744073709551615) : Tells b 1 p r ((p + r) % modW b) 0 := by
  have h := (both_add b p r hb p0 p1 r0 r1).2
  have e : cutW b (IntKind.u64.wrap (cutW b p + cutW b r)) = (p + r) % modW b := by
    rw [cutW_wrap b _ hb, cutW_mod b p hb p0 p1, cutW_mod b r hb r0 r1, ← Int.add_emod]
  rw [e] at h
  exact h

theorem pairU (b x y : Int) (x0 : 0 ≤ x) (x1 : x ≤ 18446744073709551615) (y0 : 0 ≤ y) (y1 : y ≤ 18446744073709551615) : Fits b 5 7 x y true false := by
  by_cases hb : b = 32 ∨ b = 64
  · have fx := modW_fit b x
    have fy := modW_fit b y
    have ex := cutW_mod b x hb x0 x1
    have ey := cutW_mod b y hb y0 y1
    by_cases hy : cutW b y = 0
    · exact Or.inl ⟨_, _, 1, 1, (both_zero 5 _ (by omega) work_divU b x y hb x0 x1 y0 y1 hy).2, (both_zero 7 _ (by omega) work_remU b x y hb x0 x1 y0 y1 hy).2, Or.inl rfl⟩
    · have hD := (both_divU b x y hb x0 x1 y0 y1 hy).2
      have hR := (both_remU b x y hb x0 x1 y0 y1 hy).2
      rw [ex, ey] at hD hR
      rw [ey] at hy
      obtain ⟨X, hX⟩ : ∃ X, x % modW b = X := ⟨_, rfl⟩
      obtain ⟨Y, hY⟩ : ∃ Y, y % modW b = Y := ⟨_, rfl⟩
      rw [hX] at hD hR fx
      rw [hY] at hD hR fy hy
      have hYp : 0 < Y := by omega
      have dq0 : 0 ≤ X / Y := Int.ediv_nonneg fx.1 (by omega)
      have dq1 : X / Y ≤ X := Int.ediv_le_self _ fx.1
      have rm0 : 0 ≤ X % Y := Int.emod_nonneg _ (by omega)
      have rm1 : X % Y < Y := Int.emod_lt_of_pos _ hYp
      have hsum : Y * (X / Y) + X % Y = X := Int.mul_ediv_add_emod X Y
      have hM := tells_mul b (X / Y) y hb dq0 (by omega) y0 y1
      have e1 : X / Y * y % modW b = Y * (X / Y) := by
        rw [Int.mul_emod, hY, Int.emod_eq_of_lt dq0 (by omega), Int.mul_comm]
        have h0 : 0 ≤ Y * (X / Y) := Int.mul_nonneg (by omega) dq0
        exact Int.emod_eq_of_lt h0 (by omega)
      rw [e1] at hM
      have h0 : 0 ≤ Y * (X / Y) := Int.mul_nonneg (by omega) dq0
      have hA := tells_add b (Y * (X / Y)) (X % Y) hb h0 (by omega) rm0 (by omega)
      have e2 : (Y * (X / Y) + X % Y) % modW b = X := by rw [hsum]; exact Int.emod_eq_of_lt fx.1 fx.2.2
      rw [e2] at hA
      have hW := tells_whole b x hb x0 x1
      rw [hX] at hW
      have hL := (both_ltU b (X % Y) y hb rm0 (by omega) y0 y1).2
      have e3 : cutW b (((decide (cutW b (X % Y) < cutW b y)).toNat : Int)) = 1 := by
        rw [ey, hY, cutW_mod b (X % Y) hb rm0 (by omega), Int.emod_eq_of_lt rm0 (by omega), decide_eq_true rm1]
        rcases hb with rfl | rfl <;> rfl
      rw [e3] at hL
      exact Or.inr ⟨_, _, _, 1, X, _, _, hD, hR, hM, hA, hW, hL, signs b _ hb, signs b x hb, fun _ => rfl, fun h => by cases h⟩
  · exact Or.inl ⟨_, _, 3, 3, noBits b 5 x y hb, noBits b 7 x y hb, Or.inl rfl⟩

theorem sgW_fit (b a : Int) (hb : b = 32 ∨ b = 64) : -(modW b) ≤ 2 * sgW b a ∧ 2 * sgW b a < modW b := by
  rcases hb with rfl | rfl
  · show -4294967296 ≤ 2 * s32 a ∧ 2 * s32 a < 4294967296
    unfold s32; omega
  · show -18446744073709551616 ≤ 2 * s64 a ∧ 2 * s64 a < 18446744073709551616
    unfold s64; omega
theorem sgW_of (b n : Int) (hb : b = 32 ∨ b = 64) (h0 : -(modW b) ≤ 2 * n) (h1 : 2 * n < modW b) : sgW b (n % modW b) = n := by
  rcases hb with rfl | rfl
  · have h0' : -4294967296 ≤ 2 * n := h0
    have h1' : 2 * n < 4294967296 := h1
    show s32 (n % 4294967296) = n
    unfold s32; omega
  · have h0' : -18446744073709551616 ≤ 2 * n := h0
    have h1' : 2 * n < 18446744073709551616 := h1
    show s64 (n % 18446744073709551616) = n
    unfold s64; omega
theorem sgW_cut (b a : Int) (hb : b = 32 ∨ b = 64) : sgW b (cutW b a) = sgW b a := by
  rcases hb with rfl | rfl
  · show s32 (a % 4294967296) = s32 a
    unfold s32; omega
  · rfl
theorem tmod_le (a c : Int) : -a.natAbs ≤ a.tmod c ∧ a.tmod c ≤ a.natAbs := by
  have h : (a.tmod c).natAbs ≤ a.natAbs := by
    rw [Int.natAbs_tmod]; exact Nat.mod_le _ _
  omega

theorem tmod_fit (M A C : Int) (hM : 0 < M) (h0 : -M ≤ 2 * A) (h1 : 2 * A < M) : -M ≤ 2 * A.tmod C ∧ 2 * A.tmod C < M := by
  have ht := tmod_le A C
  by_cases h : 0 ≤ A
  · have h2 := Int.tmod_nonneg C h
    omega
  · have h2 := Int.tmod_nonneg C (show 0 ≤ -A by omega)
    rw [Int.neg_tmod] at h2
    omega

theorem pairS (b x y : Int) (x0 : 0 ≤ x) (x1 : x ≤ 18446744073709551615) (y0 : 0 ≤ y) (y1 : y ≤ 18446744073709551615) : Fits b 4 6 x y false true := by
  by_cases hb : b = 32 ∨ b = 64
  · have ex := cutW_mod b x hb x0 x1
    have ey := cutW_mod b y hb y0 y1
    by_cases hy : cutW b y = 0
    · exact Or.inl ⟨_, _, 1, 1, (both_zero 4 _ (by omega) work_divS b x y hb x0 x1 y0 y1 hy).2, (both_zero 6 _ (by omega) work_remS b x y hb x0 x1 y0 y1 hy).2, Or.inl rfl⟩
    · have hR := (both_remS b x y hb x0 x1 y0 y1 hy).2
      by_cases hg : cutW b x = lst b ∧ sgW b (cutW b y) = -1
      · exact Or.inl ⟨_, _, 2, 0, (both_great b x y hb x0 x1 y0 y1 hy hg.2 hg.1).2, hR, Or.inl rfl⟩
      · have hD := (both_divS b x y hb x0 x1 y0 y1 hy hg).2
        rw [cutW_wrap b _ hb] at hD hR
        rw [wrap64_mod b _ hb] at hD
        rw [sgW_cut b x hb, sgW_cut b y hb] at hD hR
        have sx := sgW_mod b x hb
        have sy := sgW_mod b y hb
        have fxs := sgW_fit b x hb
        obtain ⟨A, hA⟩ : ∃ A, sgW b x = A := ⟨_, rfl⟩
        obtain ⟨C, hC⟩ : ∃ C, sgW b y = C := ⟨_, rfl⟩
        rw [hA] at hD hR sx fxs
        rw [hC] at hD hR sy
        have fq := modW_fit b (A.tdiv C)
        have fr := modW_fit b (A.tmod C)
        have hM := tells_mul b (A.tdiv C % modW b) y hb fq.1 fq.2.1 y0 y1
        have fp := modW_fit b (A.tdiv C % modW b * y)
        have hAd := tells_add b (A.tdiv C % modW b * y % modW b) (A.tmod C % modW b) hb fp.1 fp.2.1 fr.1 fr.2.1
        have e1 : (A.tdiv C % modW b * y % modW b + A.tmod C % modW b) % modW b = x % modW b :=
          back_mod (modW b) A C x y (A.tdiv C % modW b) (A.tmod C % modW b) sx.symm sy.symm (Int.emod_emod_of_dvd _ (Int.dvd_refl _)) (Int.emod_emod_of_dvd _ (Int.dvd_refl _))
        rw [e1] at hAd
        have hW := tells_whole b x hb x0 x1
        have hL := (both_ltU b (A.tmod C % modW b) y hb fr.1 fr.2.1 y0 y1).2
        have hS1 := signs b (A.tmod C % modW b) hb
        have hft := tmod_fit (modW b) A C (modW_pos b) fxs.1 fxs.2
        rw [sgW_of b (A.tmod C) hb hft.1 hft.2] at hS1
        have hS2 := signs b x hb
        rw [hA] at hS2
        exact Or.inr ⟨_, _, _, _, _, _, _, hD, hR, hM, hAd, hW, hL, hS1, hS2, (fun h => by cases h), fun _ => tmod_sign A C⟩
  · exact Or.inl ⟨_, _, 3, 3, noBits b 4 x y hb, noBits b 6 x y hb, Or.inl rfl⟩

end Go.Proofs.Ytcnjllecobhalaa
