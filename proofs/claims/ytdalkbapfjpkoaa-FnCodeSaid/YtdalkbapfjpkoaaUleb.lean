/-
  The walks of the functions that write numbers in groups of seven bits.
-/
import Derived.Test.YtdalkbapfjpkoaaRows
import Derived.Test.YtdalkbapfjpkoaaRet
import Derived.Test.YtdalkbapfjpkoaaMath
import Derived.Test.YtdalkbapfjpkoaaOwn
import Derived.ProofKit
import Derived.OpenShut
namespace Go.Proofs.Ytdalkbapfjpkoaa
open Go.ChangeShapes Go.WideShapes Go.ChangeAt Go.RowKit

theorem Try.info5 : (Try.prog.info? 5).map (fun i => (i.zero, i.size, i.bytes)) = some (some (.int .u8 0), 1, 1) := by kernel_rfl

set_option maxRecDepth 100000 in
set_option maxHeartbeats 400000 in
theorem specUleb (n : Nat) (h : Hid (n < 18446744073709551616)) (w : World) :
    Calls Try.prog 35 #[.int .u64 n] w fun e w' => e = .returned (.string ⟨(ul 10 n).toArray⟩) ∧ Below w.heap.size w w' := by
  obtain ⟨i0, hi, hz0, hz1, hz2⟩ := info_parts Try.info5
  go_enter Try.func35, Try.ntmps35
  go_wp2
  go_loopw [0, 3] (fun a v wr => ∃ (f m : Nat) (bs : List UInt8), Hid (m < 128 ^ (f + 1)) ∧ Hid (bs ++ ul (f + 1) m = ul 10 n) ∧ bs.length + f ≤ 9 ∧ m ≤ n ∧ a = .int .u64 m ∧ wr.ownsRow w.heap.size 5 1 v bs.length (bv bs) ∧ Below w.heap.size w wr) (fun a _ _ => (intOf a).toNat)
  case atStart => exact ⟨9, n, [], by have := h.out; unfold Hid; omega, by show [] ++ ul 10 n = _; rfl, by simp, Nat.le_refl _, rfl, World.ownsRow_nil _ _ _ _, Below.refl _ _⟩
  case round =>
    obtain ⟨f, m, bs, hm, hk, hkf, hmn, rfl, hown, hnx⟩ := hrel
    have hsz := hnx.size
    by_cases hlt : 128 ≤ m
    · go_wp2_with (at_builtin; refine wpList_append_own _ rfl _ _ 22 rfl (w.heap.size) 5 i0 (.int .u8 0) 1 1 Try.underlying22 hi hz0 hz1 hz2 rfl (by decide) _ _ _ rfl (hown.alloc _) ⟨wr.heap.size, 0, none⟩ 1 1 (bv [hiB m]) rfl rfl ?c1 ?c2 ?c3 ?c4 ?c5 ?_)
      case c1 => rw [hiB_u64 m (by have := h.out; omega)]; exact cell_one_new _ _ _
      case c2 => exact bv_one _
      case c3 => unfold maxLen; omega
      case c4 => omega
      case c5 => simp; omega
      intro v' w1 hown' hgrow' _
      rw [bv_app] at hown'
      have hb1 : Below w.heap.size w w1 := (hnx.alloc hsz _).grown hgrow' (by simp; omega) (ownsRow_block hown)
      clear hgrow' hown
      go_wp2
      go_roundw
      case rel =>
        have h1 := pow_two_up f m hm.out hlt
        obtain ⟨g, rfl⟩ : ∃ g, f = g + 1 := ⟨f - 1, by omega⟩
        refine ⟨g, m / 128, bs ++ [hiB m], pow_down _ _ hm.out, ?_, by simp; omega, by omega, by go_num, by simpa using hown', hb1⟩
        have hk := hk.out
        rw [ul_more _ _ hlt] at hk
        unfold Hid
        rw [← hk]; simp
      case measure => simp [intOf]; omega
    · go_wp2_with (at_builtin; refine wpList_append_own _ rfl _ _ 22 rfl (w.heap.size) 5 i0 (.int .u8 0) 1 1 Try.underlying22 hi hz0 hz1 hz2 rfl (by decide) _ _ _ rfl (hown.alloc _) ⟨wr.heap.size, 0, none⟩ 1 1 (bv [loB m]) rfl rfl ?d1 ?d2 ?d3 ?d4 ?d5 ?_)
      case d1 =>
        have e : (m : Int) = ((loB m).toNat : Int) := by rw [loB_nat m (by omega)]
        rw [e]; exact cell_one_new _ _ _
      case d2 => exact bv_one _
      case d3 => unfold maxLen; omega
      case d4 => omega
      case d5 => simp; omega
      intro v' w1 hown' hgrow' _
      rw [bv_app] at hown'
      have hb1 : Below w.heap.size w w1 := (hnx.alloc hsz _).grown hgrow' (by simp; omega) (ownsRow_block hown)
      have hcv := owned_string (P := Try.prog) 22 9 5 Try.underlying22 Try.underlying5 Try.underlying9 (bs := bs ++ [loB m]) (by simpa using hown')
      clear hgrow' hown hown'
      go_wp2
      go_ret
      have hk := hk.out
      rw [ul_end _ _ (by omega)] at hk
      exact ⟨by rw [← hk]; rfl, hb1⟩

theorem str_len (l : List UInt8) : (ByteArray.mk l.toArray).size = l.length := by simp [ByteArray.size]

end Go.Proofs.Ytdalkbapfjpkoaa
