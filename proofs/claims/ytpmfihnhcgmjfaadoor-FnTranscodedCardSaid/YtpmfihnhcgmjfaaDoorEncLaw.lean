/-
  The walks of the program's points in a code, and of the laws on them and on compact bytes.
-/
import Derived.Test.YtpmfihnhcgmjfaaDoorEncImpl
import Derived.Test.YtpmfihnhcgmjfaaDoorSizeLaw
namespace Go.Proofs.YtpmfihnhcgmjfaaDoor
open Go.ChangeShapes Go.WideShapes Go.ChangeAt Go.RowKit

set_option maxRecDepth 100000 in
set_option maxHeartbeats 1600000 in
theorem implEncodePoints (a : Option Addr) (cap : Nat) (L : List Int) (code : Int) (w : World) (hL : Hid (Ints w a L)) (hlen : L.length ≤ 9223372036854775807) :
    Calls Tryd.prog 11 #[.slice a L.length cap, .int .i64 code] w fun e w' => e = .returned (encF code L) ∧ Below w.heap.size w w' := by
  have H := implSizeAs a cap L code w hL hlen
  by_cases hno : sureC code L = true ∧ L.all (fitC code) = true
  · obtain ⟨hsure, hall⟩ := hno
    have hokL : okL L = true := by unfold sureC at hsure; rw [Bool.and_eq_true] at hsure; exact hsure.1
    have hok : Hid (OkAll L) := okAll_of hokL
    have hfit : Hid (∀ i (h : i < L.length), fitC code L[i] = true) := fun i h => by rw [List.all_eq_true] at hall; exact hall _ (List.getElem_mem h)
    have HF : Hid (encF code L = .tuple #[.string ⟨(encL code L).toArray⟩, .bool true]) := (encF_yes hsure).trans (encR_yes hall)
    rw [sizeF_yes hsure hall] at H
    have hn := encL_len code L
    have h300 := hok.out.1
    obtain ⟨n, hnn⟩ : ∃ n, n = (encL code L).length := ⟨_, rfl⟩
    rw [← hnn] at H hn
    clear hsure hall hokL hnn
    obtain ⟨i0, hi, hz0, hz1, hz2⟩ := info_parts Tryd.infob5
    obtain ⟨wm, hmk, hown0, hgr⟩ := run_make_own (P := Tryd.prog) w w.heap.size 22 5 i0 (.int .u8 0) 1 Tryd.underlying22 hi hz0 hz1 .i64 .i64 n (by rw [hz2]; omega) (by unfold maxLen; omega) (Nat.le_refl _)
    have hbm : Below w.heap.size w wm := (Below.refl _ _).grown hgr (Nat.le_refl _) (by intro k hk; simp at hk)
    clear hgr
    go_enter Tryd.func11, Tryd.ntmps11
    go_wp2_with (go_at_call 21; refine H.mono ?_; rintro e w' ⟨rfl, hw⟩; obtain rfl := hw.symm; clear H)
    go_loopw [8, 23] (fun v i wr => ∃ (k : Nat) (bs : List UInt8), k ≤ L.length ∧ i = .int .i64 k ∧ Hid (bs = encL code (L.take k)) ∧ bs.length ≤ 4 * k ∧ wr.ownsRow w.heap.size 5 1 v bs.length (bv bs) ∧ Below w.heap.size w wr) (fun _ i _ => L.length - (intOf i).toNat)
    case atStart => exact ⟨0, [], by omega, rfl, by simp [Hid, encL], by simp, hown0, hbm⟩
    case round =>
      clear hown0 hbm hmk
      obtain ⟨k, bs, hk, rfl, hbs, hbl, hown, hnx⟩ := hrel
      have hsz := hnx.size
      by_cases hlt : k < L.length
      · obtain ⟨b, off, rfl, hb, hc⟩ := hL.out.at k hlt
        have hc0 := (hnx.cell (p := ⟨b, off + k, none⟩) hb).trans hc
        obtain ⟨hp0, hp1, hp2⟩ := hok.out.2 k hlt
        have hf := hfit.out k hlt
        have HE := encL_snoc code L k hlt
        obtain ⟨x, hx⟩ : ∃ x, x = L[k] := ⟨_, rfl⟩
        rw [← hx] at hc0 hp0 hp1 hp2 HE hf
        clear hx hc
        have HA := appendPoint w.heap.size _ bs x code wr hown hsz (by omega) hp0 hp1 hp2 hf
        rw [← hbs.out] at HE
        have hl4 := encP_len code x.toNat
        obtain ⟨l, hl⟩ : ∃ l, l = encP code x.toNat := ⟨_, rfl⟩
        rw [← hl] at HE HA hl4
        have HE2 : Hid (encL code (L.take (k + 1)) = bs ++ l) := HE
        clear hl HE hp0 hp1 hp2 hf hown
        go_wp2_with (go_at_call 22; refine HA.mono ?_; rintro e w' ⟨v', rfl, ho, hb2⟩; clear HA)
        go_roundw
        case rel => exact ⟨k + 1, bs ++ l, by omega, by go_num, HE2.out.symm, by simp; omega, by assumption, hnx.trans (by assumption)⟩
        case measure => simp [intOf]; omega
      · have e : L.take k = L := List.take_of_length_le (by omega)
        have h3 := hbs.out
        rw [e] at h3
        have HF2 : Hid (encF code L = .tuple #[.string ⟨bs.toArray⟩, .bool true]) := by unfold Hid; rw [HF.out, h3]
        clear h3 e
        have hcv := owned_string (P := Tryd.prog) 22 9 5 Tryd.underlying22 Tryd.underlying5 Tryd.underlying9 (bs := bs) hown
        go_wp2
        go_ret2
        exact ⟨by rw [HF2.out]; rfl, hnx⟩
  · have HF : Hid (encF code L = .tuple #[.string ⟨#[]⟩, .bool false] ∧ sizeF code L = .tuple #[.int .i64 0, .bool false]) := by
      rcases h : sureC code L with _ | _
      · exact ⟨encF_no h, sizeF_no h⟩
      · rcases h2 : L.all (fitC code) with _ | _
        · exact ⟨(encF_yes h).trans (encR_no h2), sizeF_no2 h2⟩
        · exact absurd ⟨h, h2⟩ hno
    rw [HF.out.2] at H
    clear hno
    go_enter Tryd.func11, Tryd.ntmps11
    go_wp2_with (go_at_call 21; refine H.mono ?_; rintro e w' ⟨rfl, hw⟩; obtain rfl := hw.symm; clear H)
    go_ret2
    exact ⟨by rw [HF.out.1]; rfl, Below.refl _ _⟩

theorem encF_form (code : Int) (L : List Int) : ∃ x y, encF code L = .tuple #[.string x, .bool y] := by
  rcases encF_cases code L with ⟨h, _⟩ | ⟨h, _, _⟩
  · exact ⟨_, _, h⟩
  · exact ⟨_, _, h⟩

end Go.Proofs.YtpmfihnhcgmjfaaDoor
