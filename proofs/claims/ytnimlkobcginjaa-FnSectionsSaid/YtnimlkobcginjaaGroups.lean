/-
  The walk of the function that joins groups of seven bits (its loop is a jump back).
-/
import Derived.Test.YtnimlkobcginjaaTake
import Derived.ScopeJumps
import Derived.WalkMore
namespace Go.Proofs.Ytnimlkobcginjaa
open Go.ChangeShapes Go.WideShapes Go.ChangeAt Go.RowKit Go.PlainAid

/-- What holds at each jump back. -/
def GInv (s : ByteArray) (b : Nat) (a : Act) : Prop := ∃ (k : Nat) (u4 u5 u9 u10 u11 u12 u13 u14 u15 u16 u17 u18 u19 u20 u21 u22 u23 u24 u25 u26 u27 u28 u29 u30 u31 u32 u33 u34 u35 u36 u37 u38 u39 u40 u41 u42 : Value), (1 ≤ k ∧ k ≤ most b ∧ k ≤ s.size ∧ scan s (most b - k) k = scan s (most b) 0) ∧ a = { tmps := #[.string s, .int .i64 b, undef, undef, u4, u5, .int .i64 (most b), .int .u64 (acc s k), .int .i64 k, u9, u10, u11, u12, u13, u14, u15, u16, u17, u18, u19, u20, u21, u22, u23, u24, u25, u26, u27, u28, u29, u30, u31, u32, u33, u34, u35, u36, u37, u38, u39, u40, u41, u42, undef, undef], defers := [] }
theorem ginv_mk (s : ByteArray) (b k : Nat) (n : Int) (i : Int) (u4 u5 u9 u10 u11 u12 u13 u14 u15 u16 u17 u18 u19 u20 u21 u22 u23 u24 u25 u26 u27 u28 u29 u30 u31 u32 u33 u34 u35 u36 u37 u38 u39 u40 u41 u42 : Value) (h : 1 ≤ k ∧ k ≤ most b ∧ k ≤ s.size ∧ scan s (most b - k) k = scan s (most b) 0) (hn : n = acc s k) (hi : i = k) :
    GInv s b { tmps := #[.string s, .int .i64 b, undef, undef, u4, u5, .int .i64 (most b), .int .u64 n, .int .i64 i, u9, u10, u11, u12, u13, u14, u15, u16, u17, u18, u19, u20, u21, u22, u23, u24, u25, u26, u27, u28, u29, u30, u31, u32, u33, u34, u35, u36, u37, u38, u39, u40, u41, u42, undef, undef], defers := [] } := by
  subst hn hi
  exact ⟨k, u4, u5, u9, u10, u11, u12, u13, u14, u15, u16, u17, u18, u19, u20, u21, u22, u23, u24, u25, u26, u27, u28, u29, u30, u31, u32, u33, u34, u35, u36, u37, u38, u39, u40, u41, u42, h, rfl⟩

set_option maxRecDepth 1000000 in
set_option maxHeartbeats 1600000 in
theorem implGroups (s : ByteArray) (b : Nat) (hs : s.size ≤ 1048576) (hb0 : 1 ≤ b) (hb1 : b ≤ 64) (w : World) :
    Calls Try.prog 47 #[.string s, .int .i64 b] w fun e w' => e = .returned (.tuple #[.int .u64 (tg s b).1, .int .i64 (tg s b).2]) ∧ w' = w := by
  have hmo' : ((b : Int) + 6) / 7 = (most b : Int) := by unfold most; omega
  have HM : Hid (most b = (b + 6) / 7) := rfl
  have hm0 : 1 ≤ most b := by have := HM.out; omega
  have hm1 : most b ≤ 10 := by have := HM.out; omega
  go_enter Try.func47, Try.ntmps47
  go_wp2
  refine wp_scope_jumps 0 (fun a' w' => w' = w ∧ GInv s b a') (fun a' _ => 11 - (intOf (a'.tmps.getD 8 undef)).toNat) rfl ?_ ?_
  · have hne2 : ((0 : Int) == (most b : Int)) = false := by simp; omega
    by_cases h0 : 0 < s.size
    · have e := get_bt s 0 h0
      have hp0 := pt_lo s 0
      have hp1 := pt_hi s 0
      have hp := pt_and s 0
      have hne : ((0 : Int) == (s.size : Int)) = false := by simp; omega
      by_cases h5 : bt s 0 < 128
      · go_wp2
        go_step3
        go_wp2
        simp only [Exit.jump]
        go_ret2
        refine ⟨?_, rfl⟩
        rw [tg_some s b 0 (scan_hit s _ 0 (by omega) h0 h5)]
        exact ret_pair (acc_one s).symm rfl
      · have h5' : 128 ≤ bt s 0 := by omega
        go_wp2
        go_step3
        go_wp2
        go_step3
        exact ⟨rfl, rfl, ginv_mk s b 1 _ _ _ _ _ _ _ _ _ _ _ _ _ _ _ _ _ _ _ _ _ _ _ _ _ _ _ _ _ _ _ _ _ _ _ _ _ _ ⟨by omega, by omega, by omega, (scan_on s (most b) 0 (by omega) h0 h5').symm⟩ (acc_one s).symm rfl⟩
    · have hne : ((0 : Int) == (s.size : Int)) = true := by simp; omega
      go_wp2
      go_step3
      go_wp2
      simp only [Exit.jump]
      go_ret2
      refine ⟨?_, rfl⟩
      rw [tg_none s b (scan_out s _ 0 (by omega))]; rfl
  · rintro a' w' ⟨rfl, k, u4, u5, u9, u10, u11, u12, u13, u14, u15, u16, u17, u18, u19, u20, u21, u22, u23, u24, u25, u26, u27, u28, u29, u30, u31, u32, u33, u34, u35, u36, u37, u38, u39, u40, u41, u42, ⟨hk1, hkm, hks, hsc⟩, rfl⟩
    have HS : Hid (scan s (most b - k) k = scan s (most b) 0) := hsc
    clear hsc
    by_cases h1 : k = most b
    · have hz := tg_none s b (by rw [← HS.out, h1]; simp [scan])
      have h1' : ((k : Int) == (most b : Int)) = true := by simp [h1]
      clear h1
      go_wp2
      simp only [Exit.jump]
      go_ret2
      refine ⟨?_, rfl⟩
      rw [hz]; rfl
    · have h1' : ((k : Int) == (most b : Int)) = false := by simp; omega
      by_cases h2 : k < s.size
      · have hne : ((k : Int) == (s.size : Int)) = false := by simp; omega
        have e := get_bt s k h2
        have hp0 := pt_lo s k
        have hp1 := pt_hi s k
        have hp := pt_and s k
        by_cases h5 : bt s k < 128
        · go_wp2
          simp only [Exit.jump]
          go_ret2
          refine ⟨?_, rfl⟩
          rw [tg_some s b k (by rw [← HS.out]; exact scan_hit s _ k (by omega) h2 h5)]
          exact ret_pair rfl (by omega)
        · have h5' : 128 ≤ bt s k := by omega
          go_wp2
          go_step3
          refine ⟨rfl, ⟨rfl, ginv_mk s b (k + 1) _ _ _ _ _ _ _ _ _ _ _ _ _ _ _ _ _ _ _ _ _ _ _ _ _ _ _ _ _ _ _ _ _ _ _ _ _ _ ⟨by omega, by omega, by omega, ?_⟩ rfl (by omega)⟩, ?_⟩
          · rw [← HS.out, scan_on s (most b - k) k (by omega) h2 h5']; congr 1
          · simp [intOf]; omega
      · have hne : ((k : Int) == (s.size : Int)) = true := by simp; omega
        have hz := tg_none s b (by rw [← HS.out]; exact scan_out s _ k (by omega))
        go_wp2
        simp only [Exit.jump]
        go_ret2
        refine ⟨?_, rfl⟩
        rw [hz]; rfl
end Go.Proofs.Ytnimlkobcginjaa
