/-
  The walks of the functions that write signed numbers in groups of seven bits.
-/
import Derived.Test.YtdalkbapfjpkoaaUleb
import Derived.Test.YtdalkbapfjpkoaaSMath
namespace Go.Proofs.Ytdalkbapfjpkoaa
open Go.ChangeShapes Go.WideShapes Go.ChangeAt Go.RowKit

set_option maxRecDepth 100000 in
set_option maxHeartbeats 1600000 in
theorem specSleb (n : Int) (h0 : Hid (sfit 9 n)) (w : World) :
    Calls Try.prog 36 #[.int .i64 n] w fun e w' => e = .returned (.string ⟨(sl 10 n).toArray⟩) ∧ Below w.heap.size w w' := by
  obtain ⟨i0, hi, hz0, hz1, hz2⟩ := info_parts Try.info5
  go_enter Try.func36, Try.ntmps36
  go_wp2
  go_loopw [0, 3] (fun a v wr => ∃ (f : Nat) (m : Int) (bs : List UInt8), Hid (sfit f m) ∧ Hid (bs ++ sl (f + 1) m = sl 10 n) ∧ bs.length + f ≤ 9 ∧ a = .int .i64 m ∧ wr.ownsRow w.heap.size 5 1 v bs.length (bv bs) ∧ Below w.heap.size w wr) (fun a _ _ => (intOf a).natAbs)
  case atStart => exact ⟨9, n, [], h0, by show [] ++ sl 10 n = _; rfl, by simp, rfl, World.ownsRow_nil _ _ _ _, Below.refl _ _⟩
  case round =>
    obtain ⟨f, m, bs, hm, hk, hkf, rfl, hown, hnx⟩ := hrel
    have hsz := hnx.size
    have e1 := i64_and127 m
    obtain ⟨p, hp⟩ : ∃ p, p = m % 128 := ⟨_, rfl⟩
    have hp0 : 0 ≤ p := by omega
    have hp1 : p ≤ 127 := by omega
    rw [← hp] at e1
    have hP : Hid (p = m % 128) := hp
    by_cases hend : -64 ≤ m ∧ m ≤ 63
    · by_cases hs : 0 ≤ m
      · have e2 : m / 128 = 0 := by omega
        have e3 := u8_and64_lo p hp0 (by omega)
        clear hp
        go_wp2_with (at_builtin; refine wpList_append_own _ rfl _ _ 22 rfl (w.heap.size) 5 i0 (.int .u8 0) 1 1 Try.underlying22 hi hz0 hz1 hz2 rfl (by decide) _ _ _ rfl (hown.alloc _) ⟨wr.heap.size, 0, none⟩ 1 1 (bv [slo m]) rfl rfl ?a1 ?a2 ?a3 ?a4 ?a5 ?_)
        case a1 =>
          have e : p = ((slo m).toNat : Int) := by rw [slo_int]; exact hP.out
          rw [e]; first | exact cell_one_new _ _ _ | exact fun _ _ h => h
        case a2 => exact bv_one _
        case a3 => unfold maxLen; omega
        case a4 => omega
        case a5 => first | omega | (simp; omega)
        intro v' w1 hown' hgrow' _
        rw [bv_app] at hown'
        have hb1 : Below w.heap.size w w1 := (hnx.alloc hsz _).grown hgrow' (by simp; omega) (ownsRow_block hown)
        have hcv := owned_string (P := Try.prog) 22 9 5 Try.underlying22 Try.underlying5 Try.underlying9 (bs := bs ++ [slo m]) (by simpa using hown')
        clear hgrow' hown hown'
        go_wp2
        go_ret
        have hk := hk.out
        rw [sl_end f m hend] at hk
        exact ⟨by rw [← hk]; rfl, hb1⟩
      · have e2 : m / 128 = -1 := by omega
        have e3 := u8_and64_hi p (by omega) (by omega)
        clear hp
        go_wp2_with (at_builtin; refine wpList_append_own _ rfl _ _ 22 rfl (w.heap.size) 5 i0 (.int .u8 0) 1 1 Try.underlying22 hi hz0 hz1 hz2 rfl (by decide) _ _ _ rfl (hown.alloc _) ⟨wr.heap.size, 0, none⟩ 1 1 (bv [slo m]) rfl rfl ?b1 ?b2 ?b3 ?b4 ?b5 ?_)
        case b1 =>
          have e : p = ((slo m).toNat : Int) := by rw [slo_int]; exact hP.out
          rw [e]; first | exact cell_one_new _ _ _ | exact fun _ _ h => h
        case b2 => exact bv_one _
        case b3 => unfold maxLen; omega
        case b4 => omega
        case b5 => first | omega | (simp; omega)
        intro v' w1 hown' hgrow' _
        rw [bv_app] at hown'
        have hb1 : Below w.heap.size w w1 := (hnx.alloc hsz _).grown hgrow' (by simp; omega) (ownsRow_block hown)
        have hcv := owned_string (P := Try.prog) 22 9 5 Try.underlying22 Try.underlying5 Try.underlying9 (bs := bs ++ [slo m]) (by simpa using hown')
        clear hgrow' hown hown'
        go_wp2
        go_ret
        have hk := hk.out
        rw [sl_end f m hend] at hk
        exact ⟨by rw [← hk]; rfl, hb1⟩
    · rcases (show (m / 128 = 0 ∧ 64 ≤ p) ∨ (m / 128 = -1 ∧ p < 64) ∨ 0 < m / 128 ∨ m / 128 < -1 by omega) with ⟨e2, h3⟩ | ⟨e2, h3⟩ | h2 | h2
      · have e3 := u8_and64_hi p (by omega) (by omega)
        clear hp
        go_wp2_with (at_builtin; refine wpList_append_own _ rfl _ _ 22 rfl (w.heap.size) 5 i0 (.int .u8 0) 1 1 Try.underlying22 hi hz0 hz1 hz2 rfl (by decide) _ _ _ rfl (hown.alloc _) ⟨wr.heap.size, 0, none⟩ 1 1 (bv [shi m]) rfl rfl ?c1 ?c2 ?c3 ?c4 ?c5 ?_)
        case c1 =>
          have e : bits .or .u8 p 128 = ((shi m).toNat : Int) := by rw [shi_int, u8_or128 p hp0 (by omega)]; have := hP.out; omega
          rw [e]; first | exact cell_one_new _ _ _ | exact fun _ _ h => h
        case c2 => exact bv_one _
        case c3 => unfold maxLen; omega
        case c4 => omega
        case c5 => first | omega | (simp; omega)
        intro v' w1 hown' hgrow' _
        rw [bv_app] at hown'
        have hb1 : Below w.heap.size w w1 := (hnx.alloc hsz _).grown hgrow' (by simp; omega) (ownsRow_block hown)
        clear hgrow' hown
        go_wp2
        go_roundw
        case rel =>
          have h1 := sfit_two f m hm.out hend
          obtain ⟨g, rfl⟩ : ∃ g, f = g + 1 := ⟨f - 1, by omega⟩
          refine ⟨g, m / 128, bs ++ [shi m], sfit_down _ _ hm.out, ?_, by simp; omega, by go_num, by simpa using hown', hb1⟩
          have hk := hk.out
          rw [sl_more _ m hend] at hk
          unfold Hid
          rw [← hk]; simp
        case measure => simp [intOf]; omega
      · have e3 := u8_and64_lo p (by omega) (by omega)
        clear hp
        go_wp2_with (at_builtin; refine wpList_append_own _ rfl _ _ 22 rfl (w.heap.size) 5 i0 (.int .u8 0) 1 1 Try.underlying22 hi hz0 hz1 hz2 rfl (by decide) _ _ _ rfl (hown.alloc _) ⟨wr.heap.size, 0, none⟩ 1 1 (bv [shi m]) rfl rfl ?d1 ?d2 ?d3 ?d4 ?d5 ?_)
        case d1 =>
          have e : bits .or .u8 p 128 = ((shi m).toNat : Int) := by rw [shi_int, u8_or128 p hp0 (by omega)]; have := hP.out; omega
          rw [e]; first | exact cell_one_new _ _ _ | exact fun _ _ h => h
        case d2 => exact bv_one _
        case d3 => unfold maxLen; omega
        case d4 => omega
        case d5 => first | omega | (simp; omega)
        intro v' w1 hown' hgrow' _
        rw [bv_app] at hown'
        have hb1 : Below w.heap.size w w1 := (hnx.alloc hsz _).grown hgrow' (by simp; omega) (ownsRow_block hown)
        clear hgrow' hown
        go_wp2
        go_roundw
        case rel =>
          have h1 := sfit_two f m hm.out hend
          obtain ⟨g, rfl⟩ : ∃ g, f = g + 1 := ⟨f - 1, by omega⟩
          refine ⟨g, m / 128, bs ++ [shi m], sfit_down _ _ hm.out, ?_, by simp; omega, by go_num, by simpa using hown', hb1⟩
          have hk := hk.out
          rw [sl_more _ m hend] at hk
          unfold Hid
          rw [← hk]; simp
        case measure => simp [intOf]; omega
      · clear hp
        go_wp2_with (at_builtin; refine wpList_append_own _ rfl _ _ 22 rfl (w.heap.size) 5 i0 (.int .u8 0) 1 1 Try.underlying22 hi hz0 hz1 hz2 rfl (by decide) _ _ _ rfl (hown.alloc _) ⟨wr.heap.size, 0, none⟩ 1 1 (bv [shi m]) rfl rfl ?f1 ?f2 ?f3 ?f4 ?f5 ?_)
        case f1 =>
          have e : bits .or .u8 p 128 = ((shi m).toNat : Int) := by rw [shi_int, u8_or128 p hp0 (by omega)]; have := hP.out; omega
          rw [e]; first | exact cell_one_new _ _ _ | exact fun _ _ h => h
        case f2 => exact bv_one _
        case f3 => unfold maxLen; omega
        case f4 => omega
        case f5 => first | omega | (simp; omega)
        intro v' w1 hown' hgrow' _
        rw [bv_app] at hown'
        have hb1 : Below w.heap.size w w1 := (hnx.alloc hsz _).grown hgrow' (by simp; omega) (ownsRow_block hown)
        clear hgrow' hown
        go_wp2
        go_roundw
        case rel =>
          have h1 := sfit_two f m hm.out hend
          obtain ⟨g, rfl⟩ : ∃ g, f = g + 1 := ⟨f - 1, by omega⟩
          refine ⟨g, m / 128, bs ++ [shi m], sfit_down _ _ hm.out, ?_, by simp; omega, by go_num, by simpa using hown', hb1⟩
          have hk := hk.out
          rw [sl_more _ m hend] at hk
          unfold Hid
          rw [← hk]; simp
        case measure => simp [intOf]; omega
      · clear hp
        go_wp2_with (at_builtin; refine wpList_append_own _ rfl _ _ 22 rfl (w.heap.size) 5 i0 (.int .u8 0) 1 1 Try.underlying22 hi hz0 hz1 hz2 rfl (by decide) _ _ _ rfl (hown.alloc _) ⟨wr.heap.size, 0, none⟩ 1 1 (bv [shi m]) rfl rfl ?g1 ?g2 ?g3 ?g4 ?g5 ?_)
        case g1 =>
          have e : bits .or .u8 p 128 = ((shi m).toNat : Int) := by rw [shi_int, u8_or128 p hp0 (by omega)]; have := hP.out; omega
          rw [e]; first | exact cell_one_new _ _ _ | exact fun _ _ h => h
        case g2 => exact bv_one _
        case g3 => unfold maxLen; omega
        case g4 => omega
        case g5 => first | omega | (simp; omega)
        intro v' w1 hown' hgrow' _
        rw [bv_app] at hown'
        have hb1 : Below w.heap.size w w1 := (hnx.alloc hsz _).grown hgrow' (by simp; omega) (ownsRow_block hown)
        clear hgrow' hown
        go_wp2
        go_roundw
        case rel =>
          have h1 := sfit_two f m hm.out hend
          obtain ⟨g, rfl⟩ : ∃ g, f = g + 1 := ⟨f - 1, by omega⟩
          refine ⟨g, m / 128, bs ++ [shi m], sfit_down _ _ hm.out, ?_, by simp; omega, by go_num, by simpa using hown', hb1⟩
          have hk := hk.out
          rw [sl_more _ m hend] at hk
          unfold Hid
          rw [← hk]; simp
        case measure => simp [intOf]; omega

set_option maxRecDepth 100000 in
set_option maxHeartbeats 1600000 in
theorem implSleb (n : Int) (h0 : Hid (sfit 9 n)) (w : World) :
    Calls Try.prog 31 #[.int .i64 n] w fun e w' => e = .returned (.string ⟨(sl 10 n).toArray⟩) ∧ Below w.heap.size w w' := by
  obtain ⟨i0, hi, hz0, hz1, hz2⟩ := info_parts Try.info5
  go_enter Try.func31, Try.ntmps31
  go_wp2
  go_loopw [0, 3] (fun a v wr => ∃ (f : Nat) (m : Int) (bs : List UInt8), Hid (sfit f m) ∧ Hid (bs ++ sl (f + 1) m = sl 10 n) ∧ bs.length + f ≤ 9 ∧ a = .int .i64 m ∧ wr.ownsRow w.heap.size 5 1 v bs.length (bv bs) ∧ Below w.heap.size w wr) (fun a _ _ => (intOf a).natAbs)
  case atStart => exact ⟨9, n, [], h0, by show [] ++ sl 10 n = _; rfl, by simp, rfl, World.ownsRow_nil _ _ _ _, Below.refl _ _⟩
  case round =>
    obtain ⟨f, m, bs, hm, hk, hkf, rfl, hown, hnx⟩ := hrel
    have hsz := hnx.size
    by_cases hend : -64 ≤ m ∧ m ≤ 63
    · obtain ⟨ha, hb⟩ := id hend
      go_wp2_with (at_builtin; refine wpList_append_own _ rfl _ _ 22 rfl (w.heap.size) 5 i0 (.int .u8 0) 1 1 Try.underlying22 hi hz0 hz1 hz2 rfl (by decide) _ _ _ rfl (hown.alloc _) ⟨wr.heap.size, 0, none⟩ 1 1 (bv [slo m]) rfl rfl ?a1 ?a2 ?a3 ?a4 ?a5 ?_)
      case a1 =>
        have e := slo_u8 m
        rw [e]; first | exact cell_one_new _ _ _ | exact fun _ _ h => h
      case a2 => exact bv_one _
      case a3 => unfold maxLen; omega
      case a4 => omega
      case a5 => first | omega | (simp; omega)
      intro v' w1 hown' hgrow' _
      rw [bv_app] at hown'
      have hb1 : Below w.heap.size w w1 := (hnx.alloc hsz _).grown hgrow' (by simp; omega) (ownsRow_block hown)
      have hcv := owned_string (P := Try.prog) 22 9 5 Try.underlying22 Try.underlying5 Try.underlying9 (bs := bs ++ [slo m]) (by simpa using hown')
      clear hgrow' hown hown'
      go_wp2
      go_ret
      have hk := hk.out
      rw [sl_end f m hend] at hk
      exact ⟨by rw [← hk]; rfl, hb1⟩
    · rcases (show m < -64 ∨ 63 < m by omega) with h2 | h2
      · go_wp2_with (at_builtin; refine wpList_append_own _ rfl _ _ 22 rfl (w.heap.size) 5 i0 (.int .u8 0) 1 1 Try.underlying22 hi hz0 hz1 hz2 rfl (by decide) _ _ _ rfl (hown.alloc _) ⟨wr.heap.size, 0, none⟩ 1 1 (bv [shi m]) rfl rfl ?b1 ?b2 ?b3 ?b4 ?b5 ?_)
        case b1 =>
          have e := shi_u8 m
          rw [e]; first | exact cell_one_new _ _ _ | exact fun _ _ h => h
        case b2 => exact bv_one _
        case b3 => unfold maxLen; omega
        case b4 => omega
        case b5 => first | omega | (simp; omega)
        intro v' w1 hown' hgrow' _
        rw [bv_app] at hown'
        have hb1 : Below w.heap.size w w1 := (hnx.alloc hsz _).grown hgrow' (by simp; omega) (ownsRow_block hown)
        clear hgrow' hown
        go_wp2
        go_roundw
        case rel =>
          have h1 := sfit_two f m hm.out hend
          obtain ⟨g, rfl⟩ : ∃ g, f = g + 1 := ⟨f - 1, by omega⟩
          refine ⟨g, m / 128, bs ++ [shi m], sfit_down _ _ hm.out, ?_, by simp; omega, by go_num, by simpa using hown', hb1⟩
          have hk := hk.out
          rw [sl_more _ m hend] at hk
          unfold Hid
          rw [← hk]; simp
        case measure => simp [intOf]; omega
      · have h3 : ¬ m < -64 := by omega
        go_wp2_with (at_builtin; refine wpList_append_own _ rfl _ _ 22 rfl (w.heap.size) 5 i0 (.int .u8 0) 1 1 Try.underlying22 hi hz0 hz1 hz2 rfl (by decide) _ _ _ rfl (hown.alloc _) ⟨wr.heap.size, 0, none⟩ 1 1 (bv [shi m]) rfl rfl ?c1 ?c2 ?c3 ?c4 ?c5 ?_)
        case c1 =>
          have e := shi_u8 m
          rw [e]; first | exact cell_one_new _ _ _ | exact fun _ _ h => h
        case c2 => exact bv_one _
        case c3 => unfold maxLen; omega
        case c4 => omega
        case c5 => first | omega | (simp; omega)
        intro v' w1 hown' hgrow' _
        rw [bv_app] at hown'
        have hb1 : Below w.heap.size w w1 := (hnx.alloc hsz _).grown hgrow' (by simp; omega) (ownsRow_block hown)
        clear hgrow' hown
        go_wp2
        go_roundw
        case rel =>
          have h1 := sfit_two f m hm.out hend
          obtain ⟨g, rfl⟩ : ∃ g, f = g + 1 := ⟨f - 1, by omega⟩
          refine ⟨g, m / 128, bs ++ [shi m], sfit_down _ _ hm.out, ?_, by simp; omega, by go_num, by simpa using hown', hb1⟩
          have hk := hk.out
          rw [sl_more _ m hend] at hk
          unfold Hid
          rw [← hk]; simp
        case measure => simp [intOf]; omega

end Go.Proofs.Ytdalkbapfjpkoaa
