/-
  Points come back from each of their codes: the law's walk.
-/
import Derived.Test.YteipkdkohlegoaaDoorDBack
import Derived.Test.YteipkdkohlegoaaDoorCurPt
import Derived.Test.YteipkdkohlegoaaDoorEncLaw
import Derived.Test.YteipkdkohlegoaaDoorCompact
import Derived.Test.YteipkdkohlegoaaDoorDecBoth
import Derived.Test.YteipkdkohlegoaaDoorCompactP
import Derived.Test.YteipkdkohlegoaaDoorDecLaw
import Derived.Test.YteipkdkohlegoaaDoorCurD
import Derived.Deep.DeepCutAuto
namespace Go.Proofs.YteipkdkohlegoaaDoor
open Go.ChangeShapes Go.WideShapes Go.ChangeAt Go.RowKit

theorem bel_s6 {w a b : World} (h : Below w.heap.size w a) (k : Below a.heap.size a b) : Below w.heap.size w b := h.trans (k.mono h.size)

set_option maxRecDepth 100000 in
set_option maxHeartbeats 800000 in
theorem sameInts (a a' : Option Addr) (cap cap' : Nat) (L : List Int) (w : World) (hL : Hid (Ints w a L)) (hL' : Hid (Ints w a' L)) (hlen : L.length ≤ 9223372036854775807) :
    Calls Tryd.prog 10 #[.slice a L.length cap, .slice a' L.length cap'] w fun e w' => e = .returned (.bool true) ∧ Below w.heap.size w w' := by
  go_enter Tryd.func10, Tryd.ntmps10
  go_wp2
  go_loopw [13] (fun i wr => ∃ (k : Nat), k ≤ L.length ∧ i = .int .i64 k ∧ Below w.heap.size w wr) (fun i _ => L.length - (intOf i).toNat)
  case atStart => exact ⟨0, by omega, rfl, Below.refl _ _⟩
  case round =>
    obtain ⟨k, hk, rfl, hnx⟩ := hrel
    by_cases hlt : k < L.length
    · obtain ⟨b, off, rfl, hb, hc⟩ := hL.out.at k hlt
      obtain ⟨b', off', rfl, hb', hd⟩ := hL'.out.at k hlt
      obtain ⟨x, hx⟩ : ∃ x, x = L[k] := ⟨_, rfl⟩
      rw [← hx] at hc hd
      clear hx
      have hc0 : wr.cell? ⟨b, off + k, none⟩ = some (.int .i64 x) := (hnx.cell (by exact hb)).trans hc
      have hd0 : wr.cell? ⟨b', off' + k, none⟩ = some (.int .i64 x) := (hnx.cell (by exact hb')).trans hd
      clear hc hd
      go_wp2
      go_quiet (fail)
      go_wp2
      go_roundw
      case rel => exact ⟨k + 1, by omega, by go_num, hnx.trans ⟨rfl, rfl, rfl, Nat.le_refl _, fun _ _ => rfl⟩⟩
      case measure => simp [intOf]; omega
    · go_wp2
      go_ret
      exact ⟨rfl, hnx⟩

set_option maxHeartbeats 1000000 in
theorem drawEncode (a : Option Addr) (n cap : Nat) (w : World) (hb : Bys w a n w.heap.size) :
    Calls Tryd.prog 5 #[.slice a n cap] w fun e w' => ∃ (c : Option Addr) (q : Nat) (L : List Int) (k : Int), e = .returned (.tuple #[.slice c L.length q, .int .i64 k]) ∧ L.length ≤ 302 ∧ Hid (Ints w' c L) ∧ Below w.heap.size w w' := by
  have C0 := cur_new w a n cap 44 hb
  have N0 := below_new w (.cells #[.slice a n cap, .int .i64 0, .int .u64 0] 44)
  go_enter Tryd.func5, Tryd.ntmps5
  go_wp2_with fail
  refine (curPoints w.heap.size a n cap w.heap.size 0 (hid_le (by omega)) _ C0).mono ?_
  rintro e w1 ⟨v, L, rfl, hl, hown, C1, B1⟩
  go_wp2_with fail
  refine (curCode3 w.heap.size a n cap w.heap.size (0 + 2000) (hid_le (by omega)) _ C1).mono ?_
  rintro e w2 ⟨k, k0, k1, rfl, C2, B2⟩
  have hown2 := own_blkP hown.out (fun x hx h => B2.blk x (by simp at hx; omega) h)
  obtain ⟨c, q, rfl, hI⟩ := ints_of_row hown2
  have HI : Hid (Ints w2 c L) := hI
  have HB : Hid (Below w.heap.size w w2) := (N0.trans B1.below).trans B2.below
  clear C0 C1 C2 B1 B2 N0 hb hown hown2 hI
  go_wp2
  go_ret2
  exact ⟨c, q, L, k, rfl, hl, HI, HB.out⟩

set_option maxHeartbeats 4000000 in
set_option maxRecDepth 2000000 in
theorem pointsB (a1 : Option Addr) (n1 c1 : Nat) (w : World) (h1 : Bys w a1 n1 w.heap.size) (hT : Tabs w) :
    Calls Tryd.prog 3 #[.slice a1 n1 c1] w fun e w' => e = .returned (.bool true) ∧ Below w.heap.size w w' := by
  have HT : Hid (∀ w', Below w.heap.size w w' → Tabs w') := fun w' h => tabs_below hT h
  clear hT
  obtain ⟨N, hN⟩ : ∃ N : Int, (n1 : Int) = N := ⟨_, rfl⟩
  by_cases hlen : 1048576 < (n1 : Int)
  · go_enter Tryd.func3, Tryd.ntmps3
    go_wp2
    go_ret
    exact ⟨rfl, Below.refl _ _⟩
  · clear hN
    go_enter Tryd.func3, Tryd.ntmps3
    go_wp2_with fail
    refine (drawEncode a1 n1 c1 w h1).mono ?_
    rintro e w1 ⟨c, q, L, k, rfl, hl, hI, B1⟩
    have HB1 : Hid (Below w.heap.size w w1) := B1
    have hL9 : L.length ≤ 9223372036854775807 := by omega
    have E1 := fun x (h : Hid (Ints x c L)) => implEncodePoints c q L k x h hL9
    have E2 := fun x (h : Hid (Ints x c L)) => specEncodePoints c q L k x h hL9
    have HLL : Hid (L.length ≤ 302) := hl
    clear hlen h1 B1 hl
    go_wp2_with fail
    refine (E1 _ hI).mono ?_
    rintro e w2 ⟨rfl, B2⟩
    have hI2 : Hid (Ints w2 c L) := hI.out.below B2
    obtain ⟨s, ok, hf, hyes⟩ : ∃ (s : ByteArray) (ok : Bool), encF k L = .tuple #[.string s, .bool ok] ∧ Hid (ok = true → gdF k s = some L ∧ s.size ≤ 1208 ∧ sizeF k L = .tuple #[.int .i64 (s.size : Int), .bool true]) := by
      by_cases hs : sureC k L = true
      · by_cases hf : L.all (fitC k) = true
        · refine ⟨⟨(encL k L).toArray⟩, true, (encF_yes hs).trans (encR_yes hf), fun _ => ?_⟩
          have hs2 := hs
          unfold sureC at hs2
          rw [Bool.and_eq_true] at hs2
          have hlen := encL_len k L
          refine ⟨(gdF_in (of_decide_eq_true hs2.2)).trans (gd_enc hs2.1 hf), ?_, ?_⟩
          · have := HLL.out
            show (encL k L).toArray.size ≤ 1208
            simp; omega
          · rw [sizeF_yes hs hf]; simp [ByteArray.size]
        · have hf' : L.all (fitC k) = false := by simpa using hf
          exact ⟨_, _, (encF_yes hs).trans (encR_no hf'), fun h => by cases h⟩
      · have hs' : sureC k L = false := by simpa using hs
        exact ⟨_, _, encF_no hs', fun h => by cases h⟩
    rw [hf]
    have hl2 : w1.heap.size ≤ w2.heap.size := B2.size
    go_wp2_with fail
    refine (E2 _ hI2).mono ?_
    rw [hf]
    rintro e w3 ⟨rfl, B3⟩
    have hI3 : Hid (Ints w3 c L) := hI2.out.below B3
    have HB3 : Hid (Below w.heap.size w w3) := bel_s6 (bel_s6 HB1.out B2) B3
    clear B2 B3 hI hI2 E1 E2 HB1 hf hl2
    go_upto_if 49 with fail
    go_cut [9, 10, 11, 12] (fun _ _ _ _ wx => Hid (Below w.heap.size w wx) ∧ Hid (Ints wx c L))
    case first =>
      cases ok
      · go_wp2
        go_meet
        exact ⟨HB3, hI3⟩
      · obtain ⟨hg, hsz, hsf⟩ := hyes.out rfl
        have SZ := fun x (h : Hid (Ints x c L)) => implSizeAs c q L k x h hL9
        simp only [hsf] at SZ
        have DC := implDecodePoints s k (by omega) w3 (HT.out _ HB3.out)
        rw [hg] at DC
        clear hsf hg
        go_wp2_with fail
        refine DC.mono ?_
        rintro e w4 ⟨hd, B4⟩
        rcases hd with ⟨L', v, hLL, rfl, hown⟩ | ⟨hno, _⟩
        · obtain rfl := Option.some.inj hLL
          obtain ⟨c', q', rfl, hI'⟩ := ints_of_row hown
          have hI4 : Hid (Ints w4 c L) := hI3.out.below B4
          have hI4' : Hid (Ints w4 c' L) := hI'
          have HB4 : Hid (Below w.heap.size w w4) := bel_s6 HB3.out B4
          have SM := sameInts c c' q q' L w4 hI4 hI4' hL9
          clear hLL hown hI' DC B4 hI3 HB3
          go_wp2_with fail
          refine (SZ _ hI4).mono ?_
          rintro e w5 ⟨rfl, hw5⟩
          rw [hw5]
          clear hw5 w5 SZ
          go_wp2_with fail
          refine SM.mono ?_
          rintro e w6 ⟨rfl, B6⟩
          have HB6 : Hid (Below w.heap.size w w6) := bel_s6 HB4.out B6
          have hI6 : Hid (Ints w6 c L) := hI4.out.below B6
          clear SM B6 hI4 hI4' HB4
          go_wp2
          go_meet
          exact ⟨HB6, hI6⟩
        · cases hno
    case rest =>
      obtain ⟨HBc, hIc⟩ := hcut
      have K1 := implCompact c q L _ hIc hL9
      have K2 := fun x (h : Hid (Ints x c L)) => specCompact c q L x h hL9
      obtain ⟨s', wd, ok', hf, hyes'⟩ : ∃ (s : ByteArray) (wd ok : Bool), cmpF L = .tuple #[.string s, .bool wd, .bool ok] ∧ Hid ((ok = false → s = ⟨#[]⟩) ∧ (ok = true → cpF wd s = some L ∧ s.size ≤ 1208)) := by
        by_cases ho : okL L = true
        · have h2 := encL_len 2 L
          have h3 := encL_len 3 L
          by_cases hf : L.all (fitC 3) = true
          · refine ⟨_, _, _, cmpF_lat ho hf, ?_⟩
            unfold Hid
            refine ⟨fun h => (by cases h), fun _ => ⟨(cp_lat _).trans (gd_enc ho hf), ?_⟩⟩
            have := HLL.out
            show (encL 3 L).toArray.size ≤ 1208
            simp; omega
          · have hf' : L.all (fitC 3) = false := by simpa using hf
            refine ⟨_, _, _, cmpF_wide ho hf', ?_⟩
            unfold Hid
            refine ⟨fun h => (by cases h), fun _ => ⟨cp_wide (gd_enc ho (all_fit2 L)) hf', ?_⟩⟩
            have := HLL.out
            show (encL 2 L).toArray.size ≤ 1208
            simp; omega
        · have ho' : okL L = false := by simpa using ho
          refine ⟨_, _, _, cmpF_no ho', ?_⟩
          unfold Hid
          exact ⟨fun _ => rfl, fun h => (by cases h)⟩
      simp only [hf] at K1 K2
      clear hyes hf HB3 hI3
      go_wp2_with fail
      refine K1.mono ?_
      rintro e w4 ⟨rfl, B4⟩
      have hI4 : Hid (Ints w4 c L) := hIc.out.below B4
      go_wp2_with fail
      refine (K2 _ hI4).mono ?_
      rintro e w5 ⟨rfl, B5⟩
      have hI5 : Hid (Ints w5 c L) := hI4.out.below B5
      have HB5 : Hid (Below w.heap.size w w5) := bel_s6 (bel_s6 HBc.out B4) B5
      clear K1 K2 B4 B5 hI4 hIc HBc
      cases ok'
      · obtain rfl := hyes'.out.1 rfl
        go_wp2
        go_ret
        exact ⟨rfl, HB5.out⟩
      · obtain ⟨hc, hsz⟩ := hyes'.out.2 rfl
        have CP := implCompactPoints s' wd (by omega) w5 (HT.out _ HB5.out)
        rw [hc] at CP
        clear hc hyes'
        go_wp2_with fail
        refine CP.mono ?_
        rintro e w6 ⟨hd, B6⟩
        rcases hd with ⟨L', v, hLL, rfl, hown⟩ | ⟨hno, _⟩
        · obtain rfl := Option.some.inj hLL
          obtain ⟨c', q', rfl, hI'⟩ := ints_of_row hown
          have hI6 : Hid (Ints w6 c L) := hI5.out.below B6
          have hI6' : Hid (Ints w6 c' L) := hI'
          have HB6 : Hid (Below w.heap.size w w6) := bel_s6 HB5.out B6
          have SM := sameInts c c' q q' L w6 hI6 hI6' hL9
          clear hLL hown hI' CP B6 hI5 HB5
          go_wp2_with fail
          refine SM.mono ?_
          rintro e w7 ⟨rfl, B7⟩
          have HB7 : Hid (Below w.heap.size w w7) := bel_s6 HB6.out B7
          clear SM B7
          go_wp2
          go_ret
          exact ⟨rfl, HB7.out⟩
        · cases hno

end Go.Proofs.YteipkdkohlegoaaDoor
