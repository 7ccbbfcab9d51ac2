/-
  The walks of the functions that read numbers in groups of seven bits.
-/
import Derived.Test.YtkdcbgopbcicfaaUleb
import Derived.Test.YtkdcbgopbcicfaaTMath
namespace Go.Proofs.Ytkdcbgopbcicfaa
open Go.ChangeShapes Go.WideShapes Go.ChangeAt Go.RowKit Go.PlainAid

theorem ret_pair {k : IntKind} {a c : Int} {b d : Int} (h : a = c) (h2 : b = d) : Ending.returned (.tuple #[.int k a, .int .i64 b]) = .returned (.tuple #[.int k c, .int .i64 d]) := by rw [h, h2]

set_option maxRecDepth 100000 in
set_option maxHeartbeats 1600000 in
theorem specTakeU (s : ByteArray) (b : Nat) (hs : s.size ≤ 1048576) (hb0 : 1 ≤ b) (hb1 : b ≤ 64) (w : World) :
    Calls Try.prog 47 #[.string s, .int .i64 b] w fun e w' => e = .returned (.tuple #[.int .u64 (tu s b).1, .int .i64 (tu s b).2]) ∧ w' = w := by
  have hmo : Hid (most b = (b + 6) / 7) := rfl
  go_enter Try.func47, Try.ntmps47
  go_wp2
  go_loop [7, 8] (fun n i => ∃ k : Nat, k ≤ s.size ∧ k ≤ 10 ∧ Hid (k ≤ most b ∧ scan s (most b - k) k = scan s (most b) 0) ∧ i = .int .i64 k ∧ n = .int .u64 (acc s k)) (fun _ i => s.size - (intOf i).toNat)
  case atStart => exact ⟨0, by omega, by omega, ⟨by omega, rfl⟩, rfl, rfl⟩
  case round =>
    obtain ⟨k, hk, hk10, hsc, rfl, rfl⟩ := hrel
    by_cases h1 : (k : Int) < (b + 6) / 7
    · by_cases h2 : k < s.size
      · have e := get_bt s k h2
        have hp0 := pt_lo s k
        have hp1 := pt_hi s k
        have hp := pt_and s k
        by_cases h3 : (b : Int) - 7 * k < 7
        · by_cases h4 : (pt s k / 2 ^ (b - 7 * k) != 0) = true
          · go_wp2
            go_ret2
            refine ⟨?_, rfl⟩
            have hm := hmo.out
            obtain ⟨hk1, hsc⟩ := hsc.out
            have hz : tu s b = (0, 0) := by
              by_cases h5 : bt s k < 128
              · exact tu_bad s b k (by rw [← hsc, scan_hit s _ k (by omega) h2 h5]) (by simpa using h4)
              · exact tu_none s b (by rw [← hsc, scan_on s _ k (by omega) h2 (by omega), show most b - k - 1 = 0 by omega]; rfl)
            rw [hz]; rfl
          · have h4' : (pt s k / 2 ^ (b - 7 * k) != 0) = false := by simpa using h4
            have h4z : Hid (pt s k / 2 ^ (b - 7 * k) = 0) := by unfold Hid; simpa using h4
            clear h4
            by_cases h5 : bt s k < 128
            · go_wp2
              go_ret2
              have hm := hmo.out
              obtain ⟨hk1, hsc⟩ := hsc.out
              have hz := tu_good s b k (by rw [← hsc, scan_hit s _ k (by omega) h2 h5]) h4z.out
              refine ⟨?_, rfl⟩
              rw [hz]; exact ret_pair rfl (by omega)
            · have h5' : 128 ≤ bt s k := by omega
              go_wp2
              go_round
              case rel =>
                have hm := hmo.out
                obtain ⟨hk1, hsc⟩ := hsc.out
                exact ⟨k + 1, by omega, by omega, ⟨by omega, by rw [← hsc, scan_on s (most b - k) k (by omega) h2 h5']; congr 1⟩, by go_num, rfl⟩
              case measure => simp [intOf]; omega
        · by_cases h5 : bt s k < 128
          · go_wp2
            go_ret2
            have hm := hmo.out
            obtain ⟨hk1, hsc⟩ := hsc.out
            have hz := tu_good s b k (by rw [← hsc, scan_hit s _ k (by omega) h2 h5]) (wide_zero _ _ hp0 hp1 (by omega))
            refine ⟨?_, rfl⟩
            rw [hz]; exact ret_pair rfl (by omega)
          · have h5' : 128 ≤ bt s k := by omega
            go_wp2
            go_round
            case rel =>
              have hm := hmo.out
              obtain ⟨hk1, hsc⟩ := hsc.out
              exact ⟨k + 1, by omega, by omega, ⟨by omega, by rw [← hsc, scan_on s (most b - k) k (by omega) h2 h5']; congr 1⟩, by go_num, rfl⟩
            case measure => simp [intOf]; omega
      · go_wp2
        go_ret2
        refine ⟨?_, rfl⟩
        obtain ⟨hk1, hsc⟩ := hsc.out
        rw [tu_none s b (by rw [← hsc, scan_out s _ k (by omega)])]; rfl
    · go_wp2
      go_ret2
      refine ⟨?_, rfl⟩
      have hm := hmo.out
      obtain ⟨hk1, hsc⟩ := hsc.out
      rw [tu_none s b (by rw [← hsc, show most b - k = 0 by omega]; rfl)]; rfl
end Go.Proofs.Ytkdcbgopbcicfaa
