/-
  Texts in codes, drawn; the law on texts that are told in another code and back.
-/
import Derived.Test.YtpmfihnhcgmjfaaDoorTS1
import Derived.Test.YtpmfihnhcgmjfaaDoorCurD
import Derived.Test.YtpmfihnhcgmjfaaDoorBel
import Derived.Deep.CutRange
import Derived.Deep.DeepCutAuto
namespace Go.Proofs.YtpmfihnhcgmjfaaDoor
open Go.ChangeShapes Go.WideShapes Go.ChangeAt Go.RowKit

theorem enc_small {code : Int} {L : List Int} {x : ByteArray} {y : Bool} (h : encF code L = .tuple #[.string x, .bool y]) (hl : L.length ≤ 302) : x.size ≤ 1300 := by
  by_cases hs : sureC code L = true
  · rw [encF_yes hs] at h
    by_cases hf : L.all (fitC code) = true
    · rw [encR_yes hf] at h
      simp only [Value.tuple.injEq] at h
      have ht : (⟨(encL code L).toArray⟩ : ByteArray) = x := by have := h; simp at this; exact this.1
      have := encL_len code L
      rw [← ht]
      show (encL code L).toArray.size ≤ 1300
      simp; omega
    · rw [encR_no (by simpa using hf)] at h
      simp at h
      rw [← h.1]; decide
  · rw [encF_no (by simpa using hs)] at h
    simp at h
    rw [← h.1]; decide

set_option maxRecDepth 100000 in
set_option maxHeartbeats 1600000 in
theorem curEncoded (code : Int) (g : Nat) (a : Option Addr) (n cap B m : Nat) (hm : Hid (m ≤ 600000)) (w : World) (C : Cur w g a n cap B m) :
    Calls Tryd.prog 10 #[.pointer (some ⟨g, 0, none⟩), .int .i64 code] w fun e w' => ∃ s : ByteArray, s.size ≤ 1400 ∧ e = .returned (.string s) ∧ Cur w' g a n cap B (m + 2100) ∧ Aft B g w w' := by
  have HJ : Hid (g < w.heap.size ∧ B ≤ g) := ⟨C.lt, C.hg⟩
  go_enter Tryd.func10, Tryd.ntmps10
  go_wp2_with fail
  refine (curPoints g a n cap B m (hid_le (by have := hm.out; omega)) w C).mono ?_
  rintro e w1 ⟨v, L, rfl, hl, hown, C1, B1⟩
  obtain ⟨c, q, rfl, hI⟩ := ints_of_row hown.out
  have K := specEncodePoints c q L code w1 hI (by omega)
  obtain ⟨x, y, hxy⟩ := encF_form code L
  rw [hxy] at K
  have HX : Hid (x.size ≤ 1300) := enc_small hxy hl
  have HA1 : Hid (Aft B g w w1) := B1
  clear hxy hown hI B1 C hl
  go_wp2_with fail
  refine K.mono ?_
  rintro e w2 ⟨rfl, hb⟩
  replace C1 := C1.kept hb
  replace HA1 : Hid (Aft B g w w2) := HA1.out.trans ⟨hb.mono (by have := HA1.out.size; have := HJ.out; omega), hb.size, fun z _ hz => hb.block z hz⟩
  clear hb K
  go_upto_if 15 with fail
  go_cut [5] (fun s5 wx => ∃ s : ByteArray, s5 = .string s ∧ Hid (s.size ≤ 1300) ∧ Hid (Cur wx g a n cap B (m + 2000 + 2) ∧ Aft B g w wx))
  case first =>
    cases y
    · have HB2 : Hid (B ≤ w2.heap.size) := by unfold Hid; have := HJ.out; have := HA1.out.size; omega
      go_wp2_with fail
      refine (curOf w2.heap.size 4 (by omega) (by omega) g a n cap B (m + 2000) (hid_le (by have := hm.out; omega)) _ (cur_allocT C1 _) (rowT_new w2 [.string ⟨#[]⟩, .string ⟨#[97, 98, 99]⟩, .string ⟨#[195, 164]⟩, .string ⟨#[97, 0]⟩] 9 (by decide)) (by simp) (by have := C1.lt; omega)).mono ?_
      rintro e w3 ⟨s, hs, rfl, C2, B2⟩
      have HR : Hid (Cur w3 g a n cap B (m + 2000 + 2) ∧ Aft B g w w3) := ⟨C2, (HA1.out.trans (aft_allocT HB2.out _)).trans B2⟩
      have HS : Hid (s.size ≤ 1300) := by unfold Hid; omega
      clear C1 C2 B2 hs
      go_wp2
      go_meet
      exact ⟨s, rfl, HS, HR⟩
    · have HR : Hid (Cur w2 g a n cap B (m + 2000 + 2) ∧ Aft B g w w2) := ⟨C1.more (by omega), HA1.out⟩
      clear C1
      go_wp2
      go_meet
      exact ⟨x, rfl, HX, HR⟩
  case rest =>
  obtain ⟨s, rfl, HS, HR⟩ := hcut
  obtain ⟨w3, hw⟩ : ∃ W, wc = W := ⟨_, rfl⟩
  rw [hw] at HR ⊢
  clear hw HX C1 HA1
  go_wp2_with fail
  refine (curPick 5 (by omega) (by omega) g a n cap B (m + 2000 + 2) (hid_le (by have := hm.out; omega)) w3 HR.out.1).mono ?_
  rintro e w4 ⟨r, r0, r1, rfl, C4, B4⟩
  have HA4 : Hid (Aft B g w w4) := HR.out.2.trans B4
  clear HR B4
  have hr : r = 0 ∨ r = 1 ∨ (¬ r = 0 ∧ ¬ r = 1) := by omega
  clear r0 r1
  rcases hr with rfl | rfl | ⟨hr0, hr1⟩
  · go_wp2_with fail
    refine (curSpoilt s ⟨#[0, 128, 192, 216, 220, 224, 255]⟩ (hid_le (by have := HS.out; omega)) (by decide) (by decide) g a n cap B (m + 2000 + 2 + 2) (hid_le (by have := hm.out; omega)) w4 C4).mono ?_
    rintro e w5 ⟨s', hs', rfl, C5, B5⟩
    have HR : Hid (Cur w5 g a n cap B (m + 2100) ∧ Aft B g w w5) := ⟨C5.more (by omega), HA4.out.trans B5⟩
    have HS2 : Hid (s'.size ≤ 1400) := by unfold Hid; have := HS.out; omega
    clear C4 C5 B5 hs' HA4
    go_wp2
    go_ret
    exact ⟨s', HS2.out, rfl, HR.out.1, HR.out.2⟩
  · have HB2 : Hid (B ≤ w4.heap.size) := by unfold Hid; have := HJ.out; have := HA4.out.size; omega
    go_wp2_with fail
    refine (curOf w4.heap.size 8 (by omega) (by omega) g a n cap B (m + 2000 + 2 + 2) (hid_le (by have := hm.out; omega)) _ (cur_allocT C4 _) (rowT_new w4 [.string ⟨#[192, 128]⟩, .string ⟨#[237, 160, 128]⟩, .string ⟨#[244, 144, 128, 128]⟩, .string ⟨#[0, 216]⟩, .string ⟨#[0, 220, 0, 216]⟩, .string ⟨#[224, 128, 128]⟩, .string ⟨#[128]⟩, .string ⟨#[248]⟩] 9 (by decide)) (by simp) (by have := C4.lt; omega)).mono ?_
    rintro e w5 ⟨s', hs', rfl, C5, B5⟩
    have HR : Hid (Cur w5 g a n cap B (m + 2100) ∧ Aft B g w w5) := ⟨C5.more (by omega), (HA4.out.trans (aft_allocT HB2.out _)).trans B5⟩
    have HS2 : Hid (s'.size ≤ 1400) := by unfold Hid; omega
    clear C4 C5 B5 hs' HA4
    go_wp2
    go_ret
    exact ⟨s', HS2.out, rfl, HR.out.1, HR.out.2⟩
  · have hq0 : (r == 0) = false := by simpa using hr0
    have hq1 : (r == 1) = false := by simpa using hr1
    have HS2 : Hid (s.size ≤ 1400) := by unfold Hid; have := HS.out; omega
    clear hr0 hr1
    go_wp2
    go_ret
    exact ⟨s, HS2.out, rfl, C4.more (by omega), HA4.out⟩

set_option maxRecDepth 100000 in
set_option maxHeartbeats 1600000 in
theorem drawTrans (a : Option Addr) (n cap : Nat) (w : World) (hb : Bys w a n w.heap.size) :
    Calls Tryd.prog 4 #[.slice a n cap] w fun e w' => ∃ (s : ByteArray) (fr tc : Int), s.size ≤ 1400 ∧ e = .returned (.tuple #[.string s, .int .i64 fr, .int .i64 tc]) ∧ Below w.heap.size w w' := by
  have C0 := cur_new w a n cap 36 hb
  have N0 := below_new w (.cells #[.slice a n cap, .int .i64 0, .int .u64 0] 36)
  go_enter Tryd.func4, Tryd.ntmps4
  go_wp2_with fail
  refine (curCode3 w.heap.size a n cap w.heap.size 0 (hid_le (by omega)) _ C0).mono ?_
  rintro e w1 ⟨fr, _, _, rfl, C1, B1⟩
  go_wp2_with fail
  refine (curEncoded fr w.heap.size a n cap w.heap.size (0 + 4) (hid_le (by omega)) _ C1).mono ?_
  rintro e w2 ⟨s, hs, rfl, C2, B2⟩
  go_wp2_with fail
  refine (curCode3 w.heap.size a n cap w.heap.size (0 + 4 + 2100) (hid_le (by omega)) _ C2).mono ?_
  rintro e w3 ⟨tc, _, _, rfl, C3, B3⟩
  have HB : Hid (Below w.heap.size w w3) := ((N0.trans B1.below).trans B2.below).trans B3.below
  have HS : Hid (s.size ≤ 1400) := hs
  clear C0 C1 C2 C3 B1 B2 B3 N0 hb hs
  go_wp2
  exact bodyPost_ret (v := .tuple #[.string s, .int .i64 fr, .int .i64 tc]) (by simp [results, Tryd.results4, go_sem]) rfl ⟨s, fr, tc, HS.out, rfl, HB.out⟩

set_option maxHeartbeats 4000000 in
set_option maxRecDepth 2000000 in
theorem transcodedB (a1 : Option Addr) (n1 c1 : Nat) (w : World) (h1 : Bys w a1 n1 w.heap.size) (hT : UTabs w) :
    Calls Tryd.prog 3 #[.slice a1 n1 c1] w fun e w' => e = .returned (.bool true) ∧ Below w.heap.size w w' := by
  have HT : Hid (∀ w', Below w.heap.size w w' → UTabs w') := fun w' h => tabs_below hT h
  clear hT
  obtain ⟨N, hN⟩ : ∃ N : Int, (n1 : Int) = N := ⟨_, rfl⟩
  by_cases hlen : 1048576 < N
  · go_enter Tryd.func3, Tryd.ntmps3
    go_wp2
    go_ret
    exact ⟨rfl, Below.refl _ _⟩
  · go_enter Tryd.func3, Tryd.ntmps3
    go_wp2_with fail
    refine (drawTrans a1 n1 c1 w h1).mono ?_
    rintro e w1 ⟨s, fr, tc, hs, rfl, B1⟩
    have HB1 : Hid (Below w.heap.size w w1) := B1
    have HS : Hid (s.size ≤ 1400) := hs
    clear hlen h1 B1 hs hN
    obtain ⟨t, ok, hf⟩ := trF_form fr tc s
    have K := implTranscode s fr tc (by have := HS.out; omega) w1 (HT.out w1 HB1.out)
    rw [hf] at K
    go_wp2_with fail
    refine K.mono ?_
    rintro e w2 ⟨rfl, B2⟩
    have HB2 : Hid (Below w.heap.size w w2) := bel_step HB1.out B2
    clear K B2 HB1
    have K := specTranscode s fr tc (by have := HS.out; omega) w2
    rw [hf] at K
    go_wp2_with fail
    refine K.mono ?_
    rintro e w3 ⟨rfl, B3⟩
    have HB3 : Hid (Below w.heap.size w w3) := bel_step HB2.out B3
    clear K B3 HB2
    cases ok
    · obtain rfl := trans_not hf
      clear hf
      go_wp2
      go_ret
      exact ⟨rfl, HB3.out⟩
    · obtain ⟨L, hg, hback, htl, hct⟩ := trans_back hf
      have HG : Hid (gdF fr s = some L) := hg
      have HC : Hid (fr = 1 → ctF s = .tuple #[.int .i64 L.length, .bool true]) := hct
      have K := implTranscode t tc fr (by omega) w3 (HT.out w3 HB3.out)
      rw [hback] at K
      clear hf hg hback htl hct
      go_wp2_with fail
      refine K.mono ?_
      rintro e w4 ⟨rfl, B4⟩
      have HB4 : Hid (Below w.heap.size w w4) := bel_step HB3.out B4
      clear K B4 HB3
      by_cases hfr : fr = 1
      · subst hfr
        have K := implCount s (by have := HS.out; omega) w4 (HT.out w4 HB4.out)
        rw [HC.out rfl] at K
        obtain ⟨q, hq⟩ : ∃ q : Nat, L.length = q := ⟨_, rfl⟩
        rw [hq] at K
        have HQ : Hid (L.length = q) := hq
        clear hq
        go_wp2_with fail
        refine K.mono ?_
        rintro e w5 ⟨rfl, B5⟩
        have HB5 : Hid (Below w.heap.size w w5) := bel_step HB4.out B5
        clear K B5 HB4
        have K := implDecodePoints s 1 (by have := HS.out; omega) w5 (HT.out w5 HB5.out)
        go_wp2_with fail
        refine K.mono ?_
        rintro e w6 ⟨⟨M, v, hg, rfl, ho⟩ | ⟨hg, rfl⟩, B6⟩
        · have e : M = L := Option.some.inj (hg.symm.trans HG.out)
          subst e
          obtain ⟨a, cap, rfl, hI⟩ := ints_of_row ho
          have HB6 : Hid (Below w.heap.size w w6) := bel_step HB5.out B6
          rw [HQ.out]
          clear K B6 HB5 hI ho hg
          go_wp2
          go_ret
          exact ⟨rfl, HB6.out⟩
        · rw [HG.out] at hg
          cases hg
      · have hf2 : (fr == 1) = false := by simpa using hfr
        clear hfr
        go_wp2
        go_ret
        exact ⟨rfl, HB4.out⟩

end Go.Proofs.YtpmfihnhcgmjfaaDoor
