/-
  The walks of the specification's functions that tell points in a code.
-/
import Derived.Test.YtpmfihnhcgmjfaaDoorUtf
namespace Go.Proofs.YtpmfihnhcgmjfaaDoor
open Go.ChangeShapes Go.WideShapes Go.ChangeAt Go.RowKit

theorem cells_new (w : World) (l : List UInt8) : ∀ j u, (bv l)[j]? = some u → (w.alloc (byteBlock l)).cell? ((⟨w.heap.size, 0, none⟩ : Addr).add j) = some u := by
  intro j u hj
  unfold byteBlock
  rw [Addr.add_lit, Nat.zero_add, icell_of_block (heap_alloc_new _ _)]
  simpa using hj
theorem bv1 (p : Nat) (h : p < 256) : bv [UInt8.ofNat p] = [Value.int .u8 (p : Int)] := by simp only [bv, List.map, byte_val p h]
/-- What is told of points that are good. -/
def encR (code : Int) (L : List Int) : Value :=
  if L.all (fitC code) = true then .tuple #[.string ⟨(encL code L).toArray⟩, .bool true] else .tuple #[.string ⟨#[]⟩, .bool false]
theorem encR_yes {code : Int} {L : List Int} (h : L.all (fitC code) = true) : encR code L = .tuple #[.string ⟨(encL code L).toArray⟩, .bool true] := by unfold encR; rw [if_pos h]
theorem encR_no {code : Int} {L : List Int} (h : L.all (fitC code) = false) : encR code L = .tuple #[.string ⟨#[]⟩, .bool false] := by unfold encR; rw [if_neg (by rw [h]; simp)]
theorem fit1 (p : Int) : fitC 1 p = true := by simp [fitC]
theorem fit2 (p : Int) : fitC 2 p = true := by simp [fitC]
theorem fit_yes (c p : Int) (h : p ≤ 255) : fitC c p = true := by simp [fitC, h]
theorem fit_no (c p : Int) (h1 : c ≠ 1) (h2 : c ≠ 2) (h : 255 < p) : fitC c p = false := by unfold fitC; exact decide_eq_false (by omega)
theorem encP1 (p : Nat) : encP 1 p = u8b p := by simp [encP]
theorem encP2 (p : Nat) : encP 2 p = u16b p := by simp [encP]
theorem encP3 (c : Int) (p : Nat) (h1 : c ≠ 1) (h2 : c ≠ 2) : encP c p = [.ofNat p] := by simp [encP, h1, h2]
/-- What is known of the points of a good list. -/
def OkAll (L : List Int) : Prop := L.length ≤ 300 ∧ ∀ i (h : i < L.length), 0 ≤ L[i] ∧ L[i] < 1114112 ∧ (L[i] < 55296 ∨ 57344 ≤ L[i])
theorem okAll_of {L : List Int} (h : okL L = true) : OkAll L := by
  obtain ⟨h1, h2⟩ := okL_iff.1 h
  exact ⟨h1, fun i hi => h2 _ (List.getElem_mem hi)⟩
theorem Tryd.infob5 : (Tryd.prog.info? 5).map (fun i => (i.zero, i.size, i.bytes)) = some (some (.int .u8 0), 1, 1) := by kernel_rfl

set_option maxRecDepth 100000 in
set_option maxHeartbeats 800000 in
theorem specCode (c : Int) (w : World) : Calls Tryd.prog 23 #[.int .i64 c] w fun e w' => e = .returned (.bool (decide (1 ≤ c ∧ c ≤ 3))) ∧ w' = w := by
  have H := in_eq c 1 3 (decide (1 ≤ c ∧ c ≤ 3)) (by unfold Hid; rw [← Bool.decide_and]) w
  obtain ⟨r, hr⟩ : ∃ r, r = decide (1 ≤ c ∧ c ≤ 3) := ⟨_, rfl⟩
  rw [← hr] at H
  rw [← hr]
  clear hr
  go_enter Tryd.func23, Tryd.ntmps23
  go_wp2_with (go_at_call 33; refine H.mono ?_; rintro e w' ⟨rfl, rfl⟩; clear H)
  go_ret
  exact ⟨rfl, rfl⟩

set_option maxRecDepth 100000 in
set_option maxHeartbeats 1600000 in
theorem specEncode (a : Option Addr) (cap : Nat) (L : List Int) (code : Int) (w : World) (hL : Hid (Ints w a L)) (hok : Hid (OkAll L)) :
    Calls Tryd.prog 26 #[.slice a L.length cap, .int .i64 code] w fun e w' => e = .returned (encR code L) ∧ Below w.heap.size w w' := by
  obtain ⟨i0, hi, hz0, hz1, hz2⟩ := info_parts Tryd.infob5
  have hlen : L.length ≤ 300 := hok.out.1
  go_enter Tryd.func26, Tryd.ntmps26
  go_wp2
  go_loopw [6, 11] (fun v i wr => ∃ (k : Nat) (bs : List UInt8), k ≤ L.length ∧ i = .int .i64 k ∧ Hid (bs = encL code (L.take k)) ∧ bs.length ≤ 4 * k ∧ Hid ((L.take k).all (fitC code) = true) ∧ wr.ownsRow w.heap.size 5 1 v bs.length (bv bs) ∧ Below w.heap.size w wr) (fun _ i _ => L.length - (intOf i).toNat)
  case atStart => exact ⟨0, [], by omega, rfl, by simp [Hid, encL], by simp, by simp [Hid], World.ownsRow_nil _ _ _ _, Below.refl _ _⟩
  case round =>
    obtain ⟨k, bs, hk, rfl, hbs, hbl, hall, hown, hnx⟩ := hrel
    have hsz := hnx.size
    by_cases hlt : k < L.length
    · obtain ⟨b, off, rfl, hb, hc⟩ := hL.out.at k hlt
      have hc0 := (hnx.cell (p := ⟨b, off + k, none⟩) hb).trans hc
      obtain ⟨hp0, hp1, hp2⟩ := hok.out.2 k hlt
      have HS := all_snoc (fitC code) L k hlt
      have HE := encL_snoc code L k hlt
      have HB := all_bad (fitC code) L k hlt
      obtain ⟨x, hx⟩ : ∃ x, x = L[k] := ⟨_, rfl⟩
      rw [← hx] at hc0 hp0 hp1 hp2 HS HE HB
      clear hx hc
      obtain ⟨p, rfl⟩ : ∃ p : Nat, x = p := ⟨x.toNat, by omega⟩
      rw [hall.out, Bool.true_and] at HS
      rw [← hbs.out, Int.toNat_natCast] at HE
      by_cases h1 : code = 1
      · subst h1
        rw [fit1] at HS
        rw [encP1] at HE
        have hl4 := u8b_len p
        have HS2 : Hid ((L.take (k + 1)).all (fitC 1) = true) := HS
        have HU := specUtf8 p (by omega)
        obtain ⟨l, hl⟩ : ∃ l, l = u8b p := ⟨_, rfl⟩
        rw [← hl] at HE hl4 HU
        have HE2 : Hid (encL 1 (L.take (k + 1)) = bs ++ l) := HE
        clear hl
        clear HS HE HB hp2
        go_wp2_with (first | (go_at_call 40; refine (HU _).mono ?_; rintro e w' ⟨rfl, rfl⟩; clear HU) | (at_builtin; refine wpList_append_own _ rfl _ _ 22 rfl (w.heap.size) 5 i0 (.int .u8 0) 1 1 Tryd.underlying22 hi hz0 hz1 hz2 rfl (by decide) _ _ _ rfl (hown.alloc _) ⟨wr.heap.size, 0, none⟩ l.length l.length (bv l) rfl (by simp [bv_len]) (cells_new _ _) (bv_one _) (by unfold maxLen; omega) (by omega) (by simp; omega) ?_))
        intro v' w1 hown' hgrow' _
        rw [bv_app] at hown'
        have hb1 : Below w.heap.size w w1 := (hnx.alloc hsz _).grown hgrow' (by simp; omega) (ownsRow_block hown)
        clear hgrow' hown
        go_wp2
        go_roundw
        case rel => exact ⟨k + 1, bs ++ l, by omega, by go_num, HE2.out.symm, by simp; omega, HS2, by simpa using hown', hb1⟩
        case measure => simp [intOf]; omega
      · by_cases h2 : code = 2
        · subst h2
          rw [fit2] at HS
          rw [encP2] at HE
          have hl4 := u16b_len p
          have HS2 : Hid ((L.take (k + 1)).all (fitC 2) = true) := HS
          have HU := specUtf16 p (by omega)
          obtain ⟨l, hl⟩ : ∃ l, l = u16b p := ⟨_, rfl⟩
          rw [← hl] at HE hl4 HU
          have HE2 : Hid (encL 2 (L.take (k + 1)) = bs ++ l) := HE
          clear hl
          clear HS HE HB hp2
          go_wp2_with (first | (go_at_call 41; refine (HU _).mono ?_; rintro e w' ⟨rfl, rfl⟩; clear HU) | (at_builtin; refine wpList_append_own _ rfl _ _ 22 rfl (w.heap.size) 5 i0 (.int .u8 0) 1 1 Tryd.underlying22 hi hz0 hz1 hz2 rfl (by decide) _ _ _ rfl (hown.alloc _) ⟨wr.heap.size, 0, none⟩ l.length l.length (bv l) rfl (by simp [bv_len]) (cells_new _ _) (bv_one _) (by unfold maxLen; omega) (by omega) (by simp; omega) ?_))
          intro v' w1 hown' hgrow' _
          rw [bv_app] at hown'
          have hb1 : Below w.heap.size w w1 := (hnx.alloc hsz _).grown hgrow' (by simp; omega) (ownsRow_block hown)
          clear hgrow' hown
          go_wp2
          go_roundw
          case rel => exact ⟨k + 1, bs ++ l, by omega, by go_num, HE2.out.symm, by simp; omega, HS2, by simpa using hown', hb1⟩
          case measure => simp [intOf]; omega
        · have n1 : (code == 1) = false := by simpa using h1
          have n2 : (code == 2) = false := by simpa using h2
          by_cases h3 : (p : Int) ≤ 255
          · rw [fit_yes _ _ h3] at HS
            rw [encP3 _ _ h1 h2] at HE
            have HS2 : Hid ((L.take (k + 1)).all (fitC code) = true) := HS
            have HE2 : Hid (encL code (L.take (k + 1)) = bs ++ [UInt8.ofNat p]) := HE
            have h3' : ¬ (255 : Int) < (p : Int) := by omega
            clear HS HE HB hp2
            go_wp2_with (at_builtin; refine wpList_append_own _ rfl _ _ 22 rfl (w.heap.size) 5 i0 (.int .u8 0) 1 1 Tryd.underlying22 hi hz0 hz1 hz2 rfl (by decide) _ _ _ rfl (hown.alloc _) ⟨wr.heap.size, 0, none⟩ 1 1 (bv [UInt8.ofNat p]) rfl rfl ?c1 (bv_one _) (by unfold maxLen; omega) (by omega) (by simp; omega) ?_)
            case c1 =>
              rw [bv1 p (by omega)]
              exact fun _ _ h => h
            intro v' w1 hown' hgrow' _
            rw [bv_app] at hown'
            have hb1 : Below w.heap.size w w1 := (hnx.alloc hsz _).grown hgrow' (by simp; omega) (ownsRow_block hown)
            clear hgrow' hown
            go_wp2
            go_roundw
            case rel => exact ⟨k + 1, bs ++ [UInt8.ofNat p], by omega, by go_num, HE2.out.symm, by simp; omega, HS2, by simpa using hown', hb1⟩
            case measure => simp [intOf]; omega
          · have HB2 : Hid (encR code L = .tuple #[.string ⟨#[]⟩, .bool false]) := encR_no (HB (fit_no _ _ h1 h2 (by omega)))
            have h3' : (255 : Int) < (p : Int) := by omega
            clear HS HE HB hp2
            go_wp2
            go_ret2
            exact ⟨by rw [HB2.out]; rfl, hnx⟩
    · have e : L.take k = L := List.take_of_length_le (by omega)
      have h2 := hall.out
      have h3 := hbs.out
      rw [e] at h2 h3
      have HR : Hid (encR code L = .tuple #[.string ⟨bs.toArray⟩, .bool true]) := by unfold Hid; rw [encR_yes h2, h3]
      clear h2 h3 e
      have hcv := owned_string (P := Tryd.prog) 22 9 5 Tryd.underlying22 Tryd.underlying5 Tryd.underlying9 (bs := bs) hown
      go_wp2
      go_ret2
      exact ⟨by rw [HR.out]; rfl, hnx⟩

end Go.Proofs.YtpmfihnhcgmjfaaDoor
