/-
  Points that are drawn.
-/
import Derived.Test.YtpmfihnhcgmjfaaDoorCurW
import Derived.Test.YtpmfihnhcgmjfaaDoorDec
namespace Go.Proofs.YtpmfihnhcgmjfaaDoor
open Go.ChangeShapes Go.WideShapes Go.ChangeAt Go.RowKit

theorem own_blkP {w w' : World} {B : Nat} {e : TypeId} {s n : Nat} {v : Value} {xs : List Value} (h : w.ownsRow B e s v n xs) (hk : ∀ g, B ≤ g → g < w.heap.size → w'.heap[g]? = w.heap[g]?) : w'.ownsRow B e s v n xs := by
  refine ⟨h.1, ?_⟩
  rcases h.2 with h0 | ⟨g, cap, cur, h1, h2, h3, h4⟩
  · exact Or.inl h0
  · exact Or.inr ⟨g, cap, cur, h1, h2, (hk g h2 (lt_of_block h3)).trans h3, h4⟩
theorem Cur.lowP {w w' : World} {g : Nat} {a : Option Addr} {n cap B m D : Nat} (C : Cur w g a n cap B m) (hD : g < D) (h : Below D w w') : Cur w' g a n cap B m := by
  obtain ⟨t, t0, t1, c1⟩ := C.at_
  obtain ⟨s, s0, s1, c2⟩ := C.seed
  have hB := C.hg
  have k : ∀ j, w'.cell? ⟨g, j, none⟩ = w.cell? ⟨g, j, none⟩ := fun j => h.cell (p := ⟨g, j, none⟩) hD
  exact ⟨(k 0).trans C.code, ⟨t, t0, t1, (k 1).trans c1⟩, ⟨s, s0, s1, (k 2).trans c2⟩, C.bys.below (h.mono (by omega)), C.hg, Nat.lt_of_lt_of_le C.lt h.size, fun j => (h.frozen (p := ⟨g, j, none⟩) hD).trans (C.fr j)⟩

set_option maxHeartbeats 1000000 in
theorem curCode3 (g : Nat) (a : Option Addr) (n cap B m : Nat) (hm : Hid (m ≤ 800000)) (w : World) (C : Cur w g a n cap B m) :
    Calls Tryd.prog 9 #[.pointer (some ⟨g, 0, none⟩)] w fun e w' => ∃ r : Int, -1 ≤ r ∧ r ≤ 5 ∧ e = .returned (.int .i64 r) ∧ Cur w' g a n cap B (m + 4) ∧ Aft B g w w' := by
  go_enter Tryd.func9, Tryd.ntmps9
  go_wp2_with fail
  refine (curOne 30 (by omega) (by omega) g a n cap B m (hid_le (by have := hm.out; omega)) w C).mono ?_
  rintro e w1 ⟨o, rfl, C1, B1⟩
  cases o
  · go_wp2_with fail
    refine (curPick 3 (by omega) (by omega) g a n cap B (m + 2) (hid_le (by have := hm.out; omega)) w1 C1).mono ?_
    rintro e w2 ⟨q, q0, q1, rfl, C2, B2⟩
    go_wp2
    go_ret
    exact ⟨1 + q, by omega, by omega, by first | rfl | (congr 2; unfold wrap64; omega), C2, B1.trans B2⟩
  · go_wp2_with fail
    refine (curPick 6 (by omega) (by omega) g a n cap B (m + 2) (hid_le (by have := hm.out; omega)) w1 C1).mono ?_
    rintro e w2 ⟨q, q0, q1, rfl, C2, B2⟩
    go_wp2
    go_ret
    exact ⟨q - 1, by omega, by omega, by first | rfl | (congr 2; unfold wrap64; omega), C2, B1.trans B2⟩

set_option maxHeartbeats 1000000 in
theorem curPoint (g : Nat) (a : Option Addr) (n cap B m : Nat) (hm : Hid (m ≤ 800000)) (w : World) (C : Cur w g a n cap B m) :
    Calls Tryd.prog 32 #[.pointer (some ⟨g, 0, none⟩)] w fun e w' => ∃ r : Int, e = .returned (.int .i64 r) ∧ Cur w' g a n cap B (m + 4) ∧ Aft B g w w' := by
  go_enter Tryd.func32, Tryd.ntmps32
  go_wp2_with fail
  refine (curPick 5 (by omega) (by omega) g a n cap B m (hid_le (by have := hm.out; omega)) w C).mono ?_
  rintro e w1 ⟨q, q0, q1, rfl, C1, B1⟩
  have hl := C1.lt
  have hB := C1.hg
  by_cases k0 : q = 0
  · subst k0
    go_wp2_with fail
    refine (curAmong w1.heap.size 10 (by omega) (by omega) g a n cap B (m + 2) (hid_le (by have := hm.out; omega)) _ (C1.alloc _) (row_new w1 [.int .i64 0, .int .i64 127, .int .i64 128, .int .i64 2047, .int .i64 2048, .int .i64 65535, .int .i64 65536, .int .i64 1114111, .int .i64 55295, .int .i64 57344] _ (by decide)) (by simp) (by omega)).mono ?_
    rintro e w2 ⟨r, r0, r1, rfl, C2, B2⟩
    go_wp2
    go_ret
    exact ⟨r, rfl, C2, (B1.trans (Aft.alloc (by omega) _)).trans B2⟩
  · by_cases k1 : q = 1
    · subst k1
      go_wp2_with fail
      refine (curPick 128 (by omega) (by omega) g a n cap B (m + 2) (hid_le (by have := hm.out; omega)) w1 C1).mono ?_
      rintro e w2 ⟨r, r0, r1, rfl, C2, B2⟩
      go_wp2
      go_ret
      exact ⟨_, rfl, C2, B1.trans B2⟩
    · by_cases k2 : q = 2
      · subst k2
        go_wp2_with fail
        refine (curPick 1114112 (by omega) (by omega) g a n cap B (m + 2) (hid_le (by have := hm.out; omega)) w1 C1).mono ?_
        rintro e w2 ⟨r, r0, r1, rfl, C2, B2⟩
        go_wp2
        go_ret
        exact ⟨_, rfl, C2, B1.trans B2⟩
      · clear q0 q1
        go_wp2_with fail
        refine (curPick 26 (by omega) (by omega) g a n cap B (m + 2) (hid_le (by have := hm.out; omega)) w1 C1).mono ?_
        rintro e w2 ⟨r, r0, r1, rfl, C2, B2⟩
        go_wp2
        go_ret
        exact ⟨_, rfl, C2, B1.trans B2⟩

theorem specIn (p lo hi : Int) (w : World) :
    Calls Tryd.prog 33 #[.int .i64 p, .int .i64 lo, .int .i64 hi] w fun e w' => ∃ b : Bool, e = .returned (.bool b) ∧ w' = w := by
  by_cases h1 : lo ≤ p
  · go_enter Tryd.func33, Tryd.ntmps33
    go_wp2
    go_ret
    exact ⟨_, rfl, rfl⟩
  · go_enter Tryd.func33, Tryd.ntmps33
    go_wp2
    go_ret
    first | exact ⟨_, rfl, rfl⟩ | exact ⟨false, rfl, rfl⟩ | rfl | simp

set_option maxRecDepth 100000 in
set_option maxHeartbeats 4000000 in
theorem curPoints (g : Nat) (a : Option Addr) (n cap B m : Nat) (hm : Hid (m ≤ 700000)) (w : World) (C : Cur w g a n cap B m) :
    Calls Tryd.prog 18 #[.pointer (some ⟨g, 0, none⟩)] w fun e w' => ∃ (v : Value) (L : List Int), e = .returned v ∧ L.length ≤ 302 ∧ Hid (w'.ownsRow w.heap.size 3 1 v L.length (iv L)) ∧ Cur w' g a n cap B (m + 2000) ∧ Aft B g w w' := by
  obtain ⟨i0, hi, hz0, hz1, hz2⟩ := info_parts Tryd.infoi3
  have HJ : Hid (g < w.heap.size ∧ B ≤ g) := ⟨C.lt, C.hg⟩
  go_enter Tryd.func18, Tryd.ntmps18
  go_wp2_with fail
  refine (curPick 9 (by omega) (by omega) g a n cap B m (hid_le (by have := hm.out; omega)) w C).mono ?_
  rintro e w1 ⟨q, q0, q1, rfl, C1, B1⟩
  obtain ⟨j0, rfl⟩ : ∃ j : Nat, q = j := ⟨q.toNat, by omega⟩
  have hj0 : Hid (j0 ≤ 301) := by unfold Hid; omega
  clear q0 q1 C
  go_wp2_with fail
  refine (curOne 30 (by omega) (by omega) g a n cap B (m + 2) (hid_le (by have := hm.out; omega)) _ C1).mono ?_
  rintro e w2 ⟨o, rfl, C2, B2⟩
  have HC2 : Hid (Cur w2 g a n cap B (m + 4) ∧ Aft B g w w2) := ⟨C2, B1.trans B2⟩
  clear C1 B1 C2 B2
  cases o
  · go_wp2_with fail
    refine (curOne 3 (by omega) (by omega) g a n cap B (m + 6) (hid_le (by have := hm.out; omega)) _ (HC2.out.1.more (by omega))).mono ?_
    rintro e wb ⟨lat, rfl, Cb, Bb⟩
    have HCb : Hid (Cur wb g a n cap B (m + 8) ∧ Aft B g w wb) := ⟨Cb, HC2.out.2.trans Bb⟩
    clear Cb Bb HC2
    go_wp2
    go_loopw [3, 4] (fun vo vi wr => ∃ (k : Nat) (L : List Int) (V : Value), vo = V ∧ vi = .int .i64 (k : Int) ∧ Hid (L.length + k = j0) ∧ Hid (wr.ownsRow w.heap.size 3 1 V L.length (iv L)) ∧ Hid (Cur wr g a n cap B (m + 8 + 6 * L.length) ∧ Aft B g w wr)) (fun _ vi _ => (intOf vi).toNat)
    case atStart => exact ⟨j0, [], _, rfl, rfl, by unfold Hid; simp, World.ownsRow_nil _ _ _ _, HCb.out⟩
    case round =>
      obtain ⟨k, L, V, rfl, rfl, hk, hown, hC⟩ := hrel
      by_cases hlt : 0 < k
      · obtain ⟨k, rfl⟩ : ∃ i, k = i + 1 := ⟨k - 1, by omega⟩
        have HLN : Hid (L.length + (k + 1) = j0 ∧ j0 ≤ 301) := ⟨hk.out, hj0.out⟩
        have hki : (0 : Int) < ((k + 1 : Nat) : Int) := by omega
        have hkb : k ≤ 1000 := by have := HLN.out; omega
        clear hk
        go_wp2_with fail
        refine (curPoint g a n cap B (m + 8 + 6 * L.length) (hid_le (by have := hm.out; have := HLN.out; omega)) wr hC.out.1).mono ?_
        rintro e w2 ⟨r, rfl, C2, B2⟩
        have hown2 : Hid (w2.ownsRow w.heap.size 3 1 _ L.length (iv L)) := own_blkP hown.out (fun x hx hl => B2.blk x (by have := HJ.out; omega) hl)
        have hA2 : Hid (Cur w2 g a n cap B (m + 8 + 6 * L.length + 4) ∧ Aft B g w w2) := ⟨C2, hC.out.2.trans B2⟩
        clear C2 B2 hown hC
        cases lat
        · go_wp2_with fail
          refine (specIn r 55296 57343 _).mono ?_
          rintro e w3 ⟨b, rfl, hw3⟩
          rw [hw3]
          clear hw3 w3
          cases b
          · go_wp2_with (at_builtin; refine wpList_append_own _ rfl _ _ 29 rfl (w.heap.size) 3 i0 (.int .i64 0) 1 8 Tryd.underlying29 hi hz0 hz1 hz2 rfl (by decide) _ _ _ rfl (hown2.out.alloc _) ⟨w2.heap.size, 0, none⟩ 1 1 (iv [r]) rfl rfl ?c1 ?c2 ?c3 ?c4 ?c5 ?_)
            case c1 => exact cell_one_new _ _ _
            case c2 => exact iv_one _
            case c3 => have := HLN.out; unfold maxLen; omega
            case c4 => have := HLN.out; omega
            case c5 => have := hA2.out.2.size; simp; omega
            intro v' w9 hown' hgrow' _
            rw [iv_app] at hown'
            have hsz : w.heap.size ≤ w2.heap.size := hA2.out.2.size
            have hb3 : Below w.heap.size w2 w9 := ((Below.refl _ _).alloc hsz _).grown hgrow' (by simp; omega) (ownsRow_block hown2.out)
            have H3 : Hid (Cur w9 g a n cap B (m + 8 + 6 * (L ++ [r]).length) ∧ Aft B g w w9) := by
              refine ⟨(hA2.out.1.lowP HJ.out.1 hb3).more (by have := HLN.out; simp; omega), hA2.out.2.below.trans (hb3.mono (by have := HJ.out; omega)), Nat.le_trans hsz hb3.size, fun x hx hl => (hb3.block x hl).trans (hA2.out.2.blk x hx hl)⟩
            have HO3 : Hid (w9.ownsRow w.heap.size 3 1 v' (L ++ [r]).length (iv (L ++ [r]))) := by unfold Hid; simpa using hown'
            clear hgrow' hown' hb3 hsz hA2 hown2
            go_wp2
            go_roundw
            case rel => exact ⟨k, L ++ [r], _, rfl, by first | go_num | (congr 1; omega), by have := HLN.out; unfold Hid; simp; omega, HO3, H3⟩
            case measure => first | (simp [intOf]; done) | (simp [intOf]; omega)
          · go_wp2_with fail
            refine (curOne 4 (by omega) (by omega) g a n cap B (m + 8 + 6 * L.length + 4) (hid_le (by have := hm.out; have := HLN.out; omega)) _ hA2.out.1).mono ?_
            rintro e w4 ⟨o, rfl, C4, B4⟩
            have hown4 : Hid (w4.ownsRow w.heap.size 3 1 _ L.length (iv L)) := own_blkP hown2.out (fun x hx hl => B4.blk x (by have := HJ.out; omega) hl)
            have hA4 : Hid (Cur w4 g a n cap B (m + 8 + 6 * L.length + 4 + 2) ∧ Aft B g w w4) := ⟨C4, hA2.out.2.trans B4⟩
            clear C4 B4 hown2 hA2
            cases o
            · go_wp2_with (at_builtin; refine wpList_append_own _ rfl _ _ 29 rfl (w.heap.size) 3 i0 (.int .i64 0) 1 8 Tryd.underlying29 hi hz0 hz1 hz2 rfl (by decide) _ _ _ rfl (hown4.out.alloc _) ⟨w4.heap.size, 0, none⟩ 1 1 (iv [97]) rfl rfl ?c1 ?c2 ?c3 ?c4 ?c5 ?_)
              case c1 => exact cell_one_new _ _ _
              case c2 => exact iv_one _
              case c3 => have := HLN.out; unfold maxLen; omega
              case c4 => have := HLN.out; omega
              case c5 => have := hA4.out.2.size; simp; omega
              intro v' w9 hown' hgrow' _
              rw [iv_app] at hown'
              have hsz : w.heap.size ≤ w4.heap.size := hA4.out.2.size
              have hb3 : Below w.heap.size w4 w9 := ((Below.refl _ _).alloc hsz _).grown hgrow' (by simp; omega) (ownsRow_block hown4.out)
              have H3 : Hid (Cur w9 g a n cap B (m + 8 + 6 * (L ++ [97]).length) ∧ Aft B g w w9) := by
                refine ⟨(hA4.out.1.lowP HJ.out.1 hb3).more (by have := HLN.out; simp; omega), hA4.out.2.below.trans (hb3.mono (by have := HJ.out; omega)), Nat.le_trans hsz hb3.size, fun x hx hl => (hb3.block x hl).trans (hA4.out.2.blk x hx hl)⟩
              have HO3 : Hid (w9.ownsRow w.heap.size 3 1 v' (L ++ [97]).length (iv (L ++ [97]))) := by unfold Hid; simpa using hown'
              clear hgrow' hown' hb3 hsz hA4 hown4
              go_wp2
              go_roundw
              case rel => exact ⟨k, L ++ [97], _, rfl, by first | go_num | (congr 1; omega), by have := HLN.out; unfold Hid; simp; omega, HO3, H3⟩
              case measure => first | (simp [intOf]; done) | (simp [intOf]; omega)
            · go_wp2_with (at_builtin; refine wpList_append_own _ rfl _ _ 29 rfl (w.heap.size) 3 i0 (.int .i64 0) 1 8 Tryd.underlying29 hi hz0 hz1 hz2 rfl (by decide) _ _ _ rfl (hown4.out.alloc _) ⟨w4.heap.size, 0, none⟩ 1 1 (iv [r]) rfl rfl ?c1 ?c2 ?c3 ?c4 ?c5 ?_)
              case c1 => exact cell_one_new _ _ _
              case c2 => exact iv_one _
              case c3 => have := HLN.out; unfold maxLen; omega
              case c4 => have := HLN.out; omega
              case c5 => have := hA4.out.2.size; simp; omega
              intro v' w9 hown' hgrow' _
              rw [iv_app] at hown'
              have hsz : w.heap.size ≤ w4.heap.size := hA4.out.2.size
              have hb3 : Below w.heap.size w4 w9 := ((Below.refl _ _).alloc hsz _).grown hgrow' (by simp; omega) (ownsRow_block hown4.out)
              have H3 : Hid (Cur w9 g a n cap B (m + 8 + 6 * (L ++ [r]).length) ∧ Aft B g w w9) := by
                refine ⟨(hA4.out.1.lowP HJ.out.1 hb3).more (by have := HLN.out; simp; omega), hA4.out.2.below.trans (hb3.mono (by have := HJ.out; omega)), Nat.le_trans hsz hb3.size, fun x hx hl => (hb3.block x hl).trans (hA4.out.2.blk x hx hl)⟩
              have HO3 : Hid (w9.ownsRow w.heap.size 3 1 v' (L ++ [r]).length (iv (L ++ [r]))) := by unfold Hid; simpa using hown'
              clear hgrow' hown' hb3 hsz hA4 hown4
              go_wp2
              go_roundw
              case rel => exact ⟨k, L ++ [r], _, rfl, by first | go_num | (congr 1; omega), by have := HLN.out; unfold Hid; simp; omega, HO3, H3⟩
              case measure => first | (simp [intOf]; done) | (simp [intOf]; omega)
        · obtain ⟨r8, hr8⟩ : ∃ x, bits .and .i64 r 255 = x := ⟨_, rfl⟩
          go_wp2_with fail
          refine (specIn r8 55296 57343 _).mono ?_
          rintro e w3 ⟨b, rfl, hw3⟩
          rw [hw3]
          clear hw3 w3
          cases b
          · go_wp2_with (at_builtin; refine wpList_append_own _ rfl _ _ 29 rfl (w.heap.size) 3 i0 (.int .i64 0) 1 8 Tryd.underlying29 hi hz0 hz1 hz2 rfl (by decide) _ _ _ rfl (hown2.out.alloc _) ⟨w2.heap.size, 0, none⟩ 1 1 (iv [r8]) rfl rfl ?c1 ?c2 ?c3 ?c4 ?c5 ?_)
            case c1 => exact cell_one_new _ _ _
            case c2 => exact iv_one _
            case c3 => have := HLN.out; unfold maxLen; omega
            case c4 => have := HLN.out; omega
            case c5 => have := hA2.out.2.size; simp; omega
            intro v' w9 hown' hgrow' _
            rw [iv_app] at hown'
            have hsz : w.heap.size ≤ w2.heap.size := hA2.out.2.size
            have hb3 : Below w.heap.size w2 w9 := ((Below.refl _ _).alloc hsz _).grown hgrow' (by simp; omega) (ownsRow_block hown2.out)
            have H3 : Hid (Cur w9 g a n cap B (m + 8 + 6 * (L ++ [r8]).length) ∧ Aft B g w w9) := by
              refine ⟨(hA2.out.1.lowP HJ.out.1 hb3).more (by have := HLN.out; simp; omega), hA2.out.2.below.trans (hb3.mono (by have := HJ.out; omega)), Nat.le_trans hsz hb3.size, fun x hx hl => (hb3.block x hl).trans (hA2.out.2.blk x hx hl)⟩
            have HO3 : Hid (w9.ownsRow w.heap.size 3 1 v' (L ++ [r8]).length (iv (L ++ [r8]))) := by unfold Hid; simpa using hown'
            clear hgrow' hown' hb3 hsz hA2 hown2
            go_wp2
            go_roundw
            case rel => exact ⟨k, L ++ [r8], _, rfl, by first | go_num | (congr 1; omega), by have := HLN.out; unfold Hid; simp; omega, HO3, H3⟩
            case measure => first | (simp [intOf]; done) | (simp [intOf]; omega)
          · go_wp2_with fail
            refine (curOne 4 (by omega) (by omega) g a n cap B (m + 8 + 6 * L.length + 4) (hid_le (by have := hm.out; have := HLN.out; omega)) _ hA2.out.1).mono ?_
            rintro e w4 ⟨o, rfl, C4, B4⟩
            have hown4 : Hid (w4.ownsRow w.heap.size 3 1 _ L.length (iv L)) := own_blkP hown2.out (fun x hx hl => B4.blk x (by have := HJ.out; omega) hl)
            have hA4 : Hid (Cur w4 g a n cap B (m + 8 + 6 * L.length + 4 + 2) ∧ Aft B g w w4) := ⟨C4, hA2.out.2.trans B4⟩
            clear C4 B4 hown2 hA2
            cases o
            · go_wp2_with (at_builtin; refine wpList_append_own _ rfl _ _ 29 rfl (w.heap.size) 3 i0 (.int .i64 0) 1 8 Tryd.underlying29 hi hz0 hz1 hz2 rfl (by decide) _ _ _ rfl (hown4.out.alloc _) ⟨w4.heap.size, 0, none⟩ 1 1 (iv [97]) rfl rfl ?c1 ?c2 ?c3 ?c4 ?c5 ?_)
              case c1 => exact cell_one_new _ _ _
              case c2 => exact iv_one _
              case c3 => have := HLN.out; unfold maxLen; omega
              case c4 => have := HLN.out; omega
              case c5 => have := hA4.out.2.size; simp; omega
              intro v' w9 hown' hgrow' _
              rw [iv_app] at hown'
              have hsz : w.heap.size ≤ w4.heap.size := hA4.out.2.size
              have hb3 : Below w.heap.size w4 w9 := ((Below.refl _ _).alloc hsz _).grown hgrow' (by simp; omega) (ownsRow_block hown4.out)
              have H3 : Hid (Cur w9 g a n cap B (m + 8 + 6 * (L ++ [97]).length) ∧ Aft B g w w9) := by
                refine ⟨(hA4.out.1.lowP HJ.out.1 hb3).more (by have := HLN.out; simp; omega), hA4.out.2.below.trans (hb3.mono (by have := HJ.out; omega)), Nat.le_trans hsz hb3.size, fun x hx hl => (hb3.block x hl).trans (hA4.out.2.blk x hx hl)⟩
              have HO3 : Hid (w9.ownsRow w.heap.size 3 1 v' (L ++ [97]).length (iv (L ++ [97]))) := by unfold Hid; simpa using hown'
              clear hgrow' hown' hb3 hsz hA4 hown4
              go_wp2
              go_roundw
              case rel => exact ⟨k, L ++ [97], _, rfl, by first | go_num | (congr 1; omega), by have := HLN.out; unfold Hid; simp; omega, HO3, H3⟩
              case measure => first | (simp [intOf]; done) | (simp [intOf]; omega)
            · go_wp2_with (at_builtin; refine wpList_append_own _ rfl _ _ 29 rfl (w.heap.size) 3 i0 (.int .i64 0) 1 8 Tryd.underlying29 hi hz0 hz1 hz2 rfl (by decide) _ _ _ rfl (hown4.out.alloc _) ⟨w4.heap.size, 0, none⟩ 1 1 (iv [r8]) rfl rfl ?c1 ?c2 ?c3 ?c4 ?c5 ?_)
              case c1 => exact cell_one_new _ _ _
              case c2 => exact iv_one _
              case c3 => have := HLN.out; unfold maxLen; omega
              case c4 => have := HLN.out; omega
              case c5 => have := hA4.out.2.size; simp; omega
              intro v' w9 hown' hgrow' _
              rw [iv_app] at hown'
              have hsz : w.heap.size ≤ w4.heap.size := hA4.out.2.size
              have hb3 : Below w.heap.size w4 w9 := ((Below.refl _ _).alloc hsz _).grown hgrow' (by simp; omega) (ownsRow_block hown4.out)
              have H3 : Hid (Cur w9 g a n cap B (m + 8 + 6 * (L ++ [r8]).length) ∧ Aft B g w w9) := by
                refine ⟨(hA4.out.1.lowP HJ.out.1 hb3).more (by have := HLN.out; simp; omega), hA4.out.2.below.trans (hb3.mono (by have := HJ.out; omega)), Nat.le_trans hsz hb3.size, fun x hx hl => (hb3.block x hl).trans (hA4.out.2.blk x hx hl)⟩
              have HO3 : Hid (w9.ownsRow w.heap.size 3 1 v' (L ++ [r8]).length (iv (L ++ [r8]))) := by unfold Hid; simpa using hown'
              clear hgrow' hown' hb3 hsz hA4 hown4
              go_wp2
              go_roundw
              case rel => exact ⟨k, L ++ [r8], _, rfl, by first | go_num | (congr 1; omega), by have := HLN.out; unfold Hid; simp; omega, HO3, H3⟩
              case measure => first | (simp [intOf]; done) | (simp [intOf]; omega)
      · obtain rfl : k = 0 := by omega
        have HLN : Hid (L.length + 0 = j0 ∧ j0 ≤ 301) := ⟨hk.out, hj0.out⟩
        clear hk hlt
        go_wp2_with fail
        refine (curOne 30 (by omega) (by omega) g a n cap B (m + 8 + 6 * L.length) (hid_le (by have := hm.out; have := HLN.out; omega)) _ hC.out.1).mono ?_
        rintro e w4 ⟨o, rfl, C4, B4⟩
        have hown4 : Hid (w4.ownsRow w.heap.size 3 1 _ L.length (iv L)) := own_blkP hown.out (fun x hx hl => B4.blk x (by have := HJ.out; omega) hl)
        have hA4 : Hid (Cur w4 g a n cap B (m + 8 + 6 * L.length + 2) ∧ Aft B g w w4) := ⟨C4, hC.out.2.trans B4⟩
        clear C4 B4 hown hC
        cases o
        · go_wp2
          go_ret
          exact ⟨_, L, rfl, by have := HLN.out; omega, hown4, hA4.out.1.more (by have := HLN.out; omega), hA4.out.2⟩
        · have hl4 := hA4.out.1.lt
          go_wp2_with fail
          refine (curAmong w4.heap.size 4 (by omega) (by omega) g a n cap B (m + 8 + 6 * L.length + 2) (hid_le (by have := hm.out; have := HLN.out; omega)) _ (hA4.out.1.alloc _) (row_new w4 [.int .i64 (-1), .int .i64 55296, .int .i64 57343, .int .i64 1114112] _ (by decide)) (by simp) (by omega)).mono ?_
          rintro e w5 ⟨r, r0, r1, rfl, C5, B5⟩
          have hA5 : Hid (Cur w5 g a n cap B (m + 8 + 6 * L.length + 2 + 2) ∧ Aft B g w w5) := ⟨C5, (hA4.out.2.trans (Aft.alloc (by have := HJ.out; omega) _)).trans B5⟩
          have hown5 : Hid (w5.ownsRow w.heap.size 3 1 _ L.length (iv L)) := own_blkP (hown4.out.alloc _) (fun x hx hl => B5.blk x (by have := HJ.out; omega) hl)
          clear C5 B5 hown4 hA4 hl4 r0 r1
          go_wp2_with (at_builtin; refine wpList_append_own _ rfl _ _ 29 rfl (w.heap.size) 3 i0 (.int .i64 0) 1 8 Tryd.underlying29 hi hz0 hz1 hz2 rfl (by decide) _ _ _ rfl (hown5.out.alloc _) ⟨w5.heap.size, 0, none⟩ 1 1 (iv [r]) rfl rfl ?c1 ?c2 ?c3 ?c4 ?c5 ?_)
          case c1 => exact cell_one_new _ _ _
          case c2 => exact iv_one _
          case c3 => have := HLN.out; unfold maxLen; omega
          case c4 => have := HLN.out; omega
          case c5 => have := hA5.out.2.size; simp; omega
          intro v' w9 hown' hgrow' _
          rw [iv_app] at hown'
          have hsz : w.heap.size ≤ w5.heap.size := hA5.out.2.size
          have hb3 : Below w.heap.size w5 w9 := ((Below.refl _ _).alloc hsz _).grown hgrow' (by simp; omega) (ownsRow_block hown5.out)
          have H3 : Hid (Cur w9 g a n cap B (m + 2000) ∧ Aft B g w w9) := by
            refine ⟨(hA5.out.1.lowP HJ.out.1 hb3).more (by have := HLN.out; simp; omega), hA5.out.2.below.trans (hb3.mono (by have := HJ.out; omega)), Nat.le_trans hsz hb3.size, fun x hx hl => (hb3.block x hl).trans (hA5.out.2.blk x hx hl)⟩
          have HO3 : Hid (w9.ownsRow w.heap.size 3 1 v' (L ++ [r]).length (iv (L ++ [r]))) := by unfold Hid; simpa using hown'
          clear hgrow' hown' hb3 hsz hA5 hown5
          go_wp2
          go_ret
          exact ⟨_, L ++ [r], rfl, by have := HLN.out; simp; omega, HO3, H3.out.1, H3.out.2⟩
  · go_wp2_with fail
    refine (curPick 2 (by omega) (by omega) g a n cap B (m + 4) (hid_le (by have := hm.out; omega)) _ HC2.out.1).mono ?_
    rintro e wa ⟨q, q0, q1, rfl, Ca, Ba⟩
    have HCa : Hid (Cur wa g a n cap B (m + 6) ∧ Aft B g w wa) := ⟨Ca, HC2.out.2.trans Ba⟩
    obtain ⟨j1, hj1⟩ : ∃ j : Nat, 300 + q = j := ⟨(300 + q).toNat, by omega⟩
    have hj3 : Hid (j1 ≤ 301) := by unfold Hid; omega
    have hj2 : wrap64 (300 + q) = j1 := by rw [← hj1]; unfold wrap64; omega
    clear Ca Ba HC2 q0 q1 hj1 hj0
    go_wp2_with fail
    refine (curOne 3 (by omega) (by omega) g a n cap B (m + 6) (hid_le (by have := hm.out; omega)) _ (HCa.out.1.more (by omega))).mono ?_
    rintro e wb ⟨lat, rfl, Cb, Bb⟩
    have HCb : Hid (Cur wb g a n cap B (m + 8) ∧ Aft B g w wb) := ⟨Cb, HCa.out.2.trans Bb⟩
    clear Cb Bb HCa
    go_wp2
    go_loopw [3, 4] (fun vo vi wr => ∃ (k : Nat) (L : List Int) (V : Value), vo = V ∧ vi = .int .i64 (k : Int) ∧ Hid (L.length + k = j1) ∧ Hid (wr.ownsRow w.heap.size 3 1 V L.length (iv L)) ∧ Hid (Cur wr g a n cap B (m + 8 + 6 * L.length) ∧ Aft B g w wr)) (fun _ vi _ => (intOf vi).toNat)
    case atStart => exact ⟨j1, [], _, rfl, rfl, by unfold Hid; simp, World.ownsRow_nil _ _ _ _, HCb.out⟩
    case round =>
      obtain ⟨k, L, V, rfl, rfl, hk, hown, hC⟩ := hrel
      by_cases hlt : 0 < k
      · obtain ⟨k, rfl⟩ : ∃ i, k = i + 1 := ⟨k - 1, by omega⟩
        have HLN : Hid (L.length + (k + 1) = j1 ∧ j1 ≤ 301) := ⟨hk.out, hj3.out⟩
        have hki : (0 : Int) < ((k + 1 : Nat) : Int) := by omega
        have hkb : k ≤ 1000 := by have := HLN.out; omega
        clear hk
        go_wp2_with fail
        refine (curPoint g a n cap B (m + 8 + 6 * L.length) (hid_le (by have := hm.out; have := HLN.out; omega)) wr hC.out.1).mono ?_
        rintro e w2 ⟨r, rfl, C2, B2⟩
        have hown2 : Hid (w2.ownsRow w.heap.size 3 1 _ L.length (iv L)) := own_blkP hown.out (fun x hx hl => B2.blk x (by have := HJ.out; omega) hl)
        have hA2 : Hid (Cur w2 g a n cap B (m + 8 + 6 * L.length + 4) ∧ Aft B g w w2) := ⟨C2, hC.out.2.trans B2⟩
        clear C2 B2 hown hC
        cases lat
        · go_wp2_with fail
          refine (specIn r 55296 57343 _).mono ?_
          rintro e w3 ⟨b, rfl, hw3⟩
          rw [hw3]
          clear hw3 w3
          cases b
          · go_wp2_with (at_builtin; refine wpList_append_own _ rfl _ _ 29 rfl (w.heap.size) 3 i0 (.int .i64 0) 1 8 Tryd.underlying29 hi hz0 hz1 hz2 rfl (by decide) _ _ _ rfl (hown2.out.alloc _) ⟨w2.heap.size, 0, none⟩ 1 1 (iv [r]) rfl rfl ?c1 ?c2 ?c3 ?c4 ?c5 ?_)
            case c1 => exact cell_one_new _ _ _
            case c2 => exact iv_one _
            case c3 => have := HLN.out; unfold maxLen; omega
            case c4 => have := HLN.out; omega
            case c5 => have := hA2.out.2.size; simp; omega
            intro v' w9 hown' hgrow' _
            rw [iv_app] at hown'
            have hsz : w.heap.size ≤ w2.heap.size := hA2.out.2.size
            have hb3 : Below w.heap.size w2 w9 := ((Below.refl _ _).alloc hsz _).grown hgrow' (by simp; omega) (ownsRow_block hown2.out)
            have H3 : Hid (Cur w9 g a n cap B (m + 8 + 6 * (L ++ [r]).length) ∧ Aft B g w w9) := by
              refine ⟨(hA2.out.1.lowP HJ.out.1 hb3).more (by have := HLN.out; simp; omega), hA2.out.2.below.trans (hb3.mono (by have := HJ.out; omega)), Nat.le_trans hsz hb3.size, fun x hx hl => (hb3.block x hl).trans (hA2.out.2.blk x hx hl)⟩
            have HO3 : Hid (w9.ownsRow w.heap.size 3 1 v' (L ++ [r]).length (iv (L ++ [r]))) := by unfold Hid; simpa using hown'
            clear hgrow' hown' hb3 hsz hA2 hown2
            go_wp2
            go_roundw
            case rel => exact ⟨k, L ++ [r], _, rfl, by first | go_num | (congr 1; omega), by have := HLN.out; unfold Hid; simp; omega, HO3, H3⟩
            case measure => first | (simp [intOf]; done) | (simp [intOf]; omega)
          · go_wp2_with fail
            refine (curOne 4 (by omega) (by omega) g a n cap B (m + 8 + 6 * L.length + 4) (hid_le (by have := hm.out; have := HLN.out; omega)) _ hA2.out.1).mono ?_
            rintro e w4 ⟨o, rfl, C4, B4⟩
            have hown4 : Hid (w4.ownsRow w.heap.size 3 1 _ L.length (iv L)) := own_blkP hown2.out (fun x hx hl => B4.blk x (by have := HJ.out; omega) hl)
            have hA4 : Hid (Cur w4 g a n cap B (m + 8 + 6 * L.length + 4 + 2) ∧ Aft B g w w4) := ⟨C4, hA2.out.2.trans B4⟩
            clear C4 B4 hown2 hA2
            cases o
            · go_wp2_with (at_builtin; refine wpList_append_own _ rfl _ _ 29 rfl (w.heap.size) 3 i0 (.int .i64 0) 1 8 Tryd.underlying29 hi hz0 hz1 hz2 rfl (by decide) _ _ _ rfl (hown4.out.alloc _) ⟨w4.heap.size, 0, none⟩ 1 1 (iv [97]) rfl rfl ?c1 ?c2 ?c3 ?c4 ?c5 ?_)
              case c1 => exact cell_one_new _ _ _
              case c2 => exact iv_one _
              case c3 => have := HLN.out; unfold maxLen; omega
              case c4 => have := HLN.out; omega
              case c5 => have := hA4.out.2.size; simp; omega
              intro v' w9 hown' hgrow' _
              rw [iv_app] at hown'
              have hsz : w.heap.size ≤ w4.heap.size := hA4.out.2.size
              have hb3 : Below w.heap.size w4 w9 := ((Below.refl _ _).alloc hsz _).grown hgrow' (by simp; omega) (ownsRow_block hown4.out)
              have H3 : Hid (Cur w9 g a n cap B (m + 8 + 6 * (L ++ [97]).length) ∧ Aft B g w w9) := by
                refine ⟨(hA4.out.1.lowP HJ.out.1 hb3).more (by have := HLN.out; simp; omega), hA4.out.2.below.trans (hb3.mono (by have := HJ.out; omega)), Nat.le_trans hsz hb3.size, fun x hx hl => (hb3.block x hl).trans (hA4.out.2.blk x hx hl)⟩
              have HO3 : Hid (w9.ownsRow w.heap.size 3 1 v' (L ++ [97]).length (iv (L ++ [97]))) := by unfold Hid; simpa using hown'
              clear hgrow' hown' hb3 hsz hA4 hown4
              go_wp2
              go_roundw
              case rel => exact ⟨k, L ++ [97], _, rfl, by first | go_num | (congr 1; omega), by have := HLN.out; unfold Hid; simp; omega, HO3, H3⟩
              case measure => first | (simp [intOf]; done) | (simp [intOf]; omega)
            · go_wp2_with (at_builtin; refine wpList_append_own _ rfl _ _ 29 rfl (w.heap.size) 3 i0 (.int .i64 0) 1 8 Tryd.underlying29 hi hz0 hz1 hz2 rfl (by decide) _ _ _ rfl (hown4.out.alloc _) ⟨w4.heap.size, 0, none⟩ 1 1 (iv [r]) rfl rfl ?c1 ?c2 ?c3 ?c4 ?c5 ?_)
              case c1 => exact cell_one_new _ _ _
              case c2 => exact iv_one _
              case c3 => have := HLN.out; unfold maxLen; omega
              case c4 => have := HLN.out; omega
              case c5 => have := hA4.out.2.size; simp; omega
              intro v' w9 hown' hgrow' _
              rw [iv_app] at hown'
              have hsz : w.heap.size ≤ w4.heap.size := hA4.out.2.size
              have hb3 : Below w.heap.size w4 w9 := ((Below.refl _ _).alloc hsz _).grown hgrow' (by simp; omega) (ownsRow_block hown4.out)
              have H3 : Hid (Cur w9 g a n cap B (m + 8 + 6 * (L ++ [r]).length) ∧ Aft B g w w9) := by
                refine ⟨(hA4.out.1.lowP HJ.out.1 hb3).more (by have := HLN.out; simp; omega), hA4.out.2.below.trans (hb3.mono (by have := HJ.out; omega)), Nat.le_trans hsz hb3.size, fun x hx hl => (hb3.block x hl).trans (hA4.out.2.blk x hx hl)⟩
              have HO3 : Hid (w9.ownsRow w.heap.size 3 1 v' (L ++ [r]).length (iv (L ++ [r]))) := by unfold Hid; simpa using hown'
              clear hgrow' hown' hb3 hsz hA4 hown4
              go_wp2
              go_roundw
              case rel => exact ⟨k, L ++ [r], _, rfl, by first | go_num | (congr 1; omega), by have := HLN.out; unfold Hid; simp; omega, HO3, H3⟩
              case measure => first | (simp [intOf]; done) | (simp [intOf]; omega)
        · obtain ⟨r8, hr8⟩ : ∃ x, bits .and .i64 r 255 = x := ⟨_, rfl⟩
          go_wp2_with fail
          refine (specIn r8 55296 57343 _).mono ?_
          rintro e w3 ⟨b, rfl, hw3⟩
          rw [hw3]
          clear hw3 w3
          cases b
          · go_wp2_with (at_builtin; refine wpList_append_own _ rfl _ _ 29 rfl (w.heap.size) 3 i0 (.int .i64 0) 1 8 Tryd.underlying29 hi hz0 hz1 hz2 rfl (by decide) _ _ _ rfl (hown2.out.alloc _) ⟨w2.heap.size, 0, none⟩ 1 1 (iv [r8]) rfl rfl ?c1 ?c2 ?c3 ?c4 ?c5 ?_)
            case c1 => exact cell_one_new _ _ _
            case c2 => exact iv_one _
            case c3 => have := HLN.out; unfold maxLen; omega
            case c4 => have := HLN.out; omega
            case c5 => have := hA2.out.2.size; simp; omega
            intro v' w9 hown' hgrow' _
            rw [iv_app] at hown'
            have hsz : w.heap.size ≤ w2.heap.size := hA2.out.2.size
            have hb3 : Below w.heap.size w2 w9 := ((Below.refl _ _).alloc hsz _).grown hgrow' (by simp; omega) (ownsRow_block hown2.out)
            have H3 : Hid (Cur w9 g a n cap B (m + 8 + 6 * (L ++ [r8]).length) ∧ Aft B g w w9) := by
              refine ⟨(hA2.out.1.lowP HJ.out.1 hb3).more (by have := HLN.out; simp; omega), hA2.out.2.below.trans (hb3.mono (by have := HJ.out; omega)), Nat.le_trans hsz hb3.size, fun x hx hl => (hb3.block x hl).trans (hA2.out.2.blk x hx hl)⟩
            have HO3 : Hid (w9.ownsRow w.heap.size 3 1 v' (L ++ [r8]).length (iv (L ++ [r8]))) := by unfold Hid; simpa using hown'
            clear hgrow' hown' hb3 hsz hA2 hown2
            go_wp2
            go_roundw
            case rel => exact ⟨k, L ++ [r8], _, rfl, by first | go_num | (congr 1; omega), by have := HLN.out; unfold Hid; simp; omega, HO3, H3⟩
            case measure => first | (simp [intOf]; done) | (simp [intOf]; omega)
          · go_wp2_with fail
            refine (curOne 4 (by omega) (by omega) g a n cap B (m + 8 + 6 * L.length + 4) (hid_le (by have := hm.out; have := HLN.out; omega)) _ hA2.out.1).mono ?_
            rintro e w4 ⟨o, rfl, C4, B4⟩
            have hown4 : Hid (w4.ownsRow w.heap.size 3 1 _ L.length (iv L)) := own_blkP hown2.out (fun x hx hl => B4.blk x (by have := HJ.out; omega) hl)
            have hA4 : Hid (Cur w4 g a n cap B (m + 8 + 6 * L.length + 4 + 2) ∧ Aft B g w w4) := ⟨C4, hA2.out.2.trans B4⟩
            clear C4 B4 hown2 hA2
            cases o
            · go_wp2_with (at_builtin; refine wpList_append_own _ rfl _ _ 29 rfl (w.heap.size) 3 i0 (.int .i64 0) 1 8 Tryd.underlying29 hi hz0 hz1 hz2 rfl (by decide) _ _ _ rfl (hown4.out.alloc _) ⟨w4.heap.size, 0, none⟩ 1 1 (iv [97]) rfl rfl ?c1 ?c2 ?c3 ?c4 ?c5 ?_)
              case c1 => exact cell_one_new _ _ _
              case c2 => exact iv_one _
              case c3 => have := HLN.out; unfold maxLen; omega
              case c4 => have := HLN.out; omega
              case c5 => have := hA4.out.2.size; simp; omega
              intro v' w9 hown' hgrow' _
              rw [iv_app] at hown'
              have hsz : w.heap.size ≤ w4.heap.size := hA4.out.2.size
              have hb3 : Below w.heap.size w4 w9 := ((Below.refl _ _).alloc hsz _).grown hgrow' (by simp; omega) (ownsRow_block hown4.out)
              have H3 : Hid (Cur w9 g a n cap B (m + 8 + 6 * (L ++ [97]).length) ∧ Aft B g w w9) := by
                refine ⟨(hA4.out.1.lowP HJ.out.1 hb3).more (by have := HLN.out; simp; omega), hA4.out.2.below.trans (hb3.mono (by have := HJ.out; omega)), Nat.le_trans hsz hb3.size, fun x hx hl => (hb3.block x hl).trans (hA4.out.2.blk x hx hl)⟩
              have HO3 : Hid (w9.ownsRow w.heap.size 3 1 v' (L ++ [97]).length (iv (L ++ [97]))) := by unfold Hid; simpa using hown'
              clear hgrow' hown' hb3 hsz hA4 hown4
              go_wp2
              go_roundw
              case rel => exact ⟨k, L ++ [97], _, rfl, by first | go_num | (congr 1; omega), by have := HLN.out; unfold Hid; simp; omega, HO3, H3⟩
              case measure => first | (simp [intOf]; done) | (simp [intOf]; omega)
            · go_wp2_with (at_builtin; refine wpList_append_own _ rfl _ _ 29 rfl (w.heap.size) 3 i0 (.int .i64 0) 1 8 Tryd.underlying29 hi hz0 hz1 hz2 rfl (by decide) _ _ _ rfl (hown4.out.alloc _) ⟨w4.heap.size, 0, none⟩ 1 1 (iv [r8]) rfl rfl ?c1 ?c2 ?c3 ?c4 ?c5 ?_)
              case c1 => exact cell_one_new _ _ _
              case c2 => exact iv_one _
              case c3 => have := HLN.out; unfold maxLen; omega
              case c4 => have := HLN.out; omega
              case c5 => have := hA4.out.2.size; simp; omega
              intro v' w9 hown' hgrow' _
              rw [iv_app] at hown'
              have hsz : w.heap.size ≤ w4.heap.size := hA4.out.2.size
              have hb3 : Below w.heap.size w4 w9 := ((Below.refl _ _).alloc hsz _).grown hgrow' (by simp; omega) (ownsRow_block hown4.out)
              have H3 : Hid (Cur w9 g a n cap B (m + 8 + 6 * (L ++ [r8]).length) ∧ Aft B g w w9) := by
                refine ⟨(hA4.out.1.lowP HJ.out.1 hb3).more (by have := HLN.out; simp; omega), hA4.out.2.below.trans (hb3.mono (by have := HJ.out; omega)), Nat.le_trans hsz hb3.size, fun x hx hl => (hb3.block x hl).trans (hA4.out.2.blk x hx hl)⟩
              have HO3 : Hid (w9.ownsRow w.heap.size 3 1 v' (L ++ [r8]).length (iv (L ++ [r8]))) := by unfold Hid; simpa using hown'
              clear hgrow' hown' hb3 hsz hA4 hown4
              go_wp2
              go_roundw
              case rel => exact ⟨k, L ++ [r8], _, rfl, by first | go_num | (congr 1; omega), by have := HLN.out; unfold Hid; simp; omega, HO3, H3⟩
              case measure => first | (simp [intOf]; done) | (simp [intOf]; omega)
      · obtain rfl : k = 0 := by omega
        have HLN : Hid (L.length + 0 = j1 ∧ j1 ≤ 301) := ⟨hk.out, hj3.out⟩
        clear hk hlt
        go_wp2_with fail
        refine (curOne 30 (by omega) (by omega) g a n cap B (m + 8 + 6 * L.length) (hid_le (by have := hm.out; have := HLN.out; omega)) _ hC.out.1).mono ?_
        rintro e w4 ⟨o, rfl, C4, B4⟩
        have hown4 : Hid (w4.ownsRow w.heap.size 3 1 _ L.length (iv L)) := own_blkP hown.out (fun x hx hl => B4.blk x (by have := HJ.out; omega) hl)
        have hA4 : Hid (Cur w4 g a n cap B (m + 8 + 6 * L.length + 2) ∧ Aft B g w w4) := ⟨C4, hC.out.2.trans B4⟩
        clear C4 B4 hown hC
        cases o
        · go_wp2
          go_ret
          exact ⟨_, L, rfl, by have := HLN.out; omega, hown4, hA4.out.1.more (by have := HLN.out; omega), hA4.out.2⟩
        · have hl4 := hA4.out.1.lt
          go_wp2_with fail
          refine (curAmong w4.heap.size 4 (by omega) (by omega) g a n cap B (m + 8 + 6 * L.length + 2) (hid_le (by have := hm.out; have := HLN.out; omega)) _ (hA4.out.1.alloc _) (row_new w4 [.int .i64 (-1), .int .i64 55296, .int .i64 57343, .int .i64 1114112] _ (by decide)) (by simp) (by omega)).mono ?_
          rintro e w5 ⟨r, r0, r1, rfl, C5, B5⟩
          have hA5 : Hid (Cur w5 g a n cap B (m + 8 + 6 * L.length + 2 + 2) ∧ Aft B g w w5) := ⟨C5, (hA4.out.2.trans (Aft.alloc (by have := HJ.out; omega) _)).trans B5⟩
          have hown5 : Hid (w5.ownsRow w.heap.size 3 1 _ L.length (iv L)) := own_blkP (hown4.out.alloc _) (fun x hx hl => B5.blk x (by have := HJ.out; omega) hl)
          clear C5 B5 hown4 hA4 hl4 r0 r1
          go_wp2_with (at_builtin; refine wpList_append_own _ rfl _ _ 29 rfl (w.heap.size) 3 i0 (.int .i64 0) 1 8 Tryd.underlying29 hi hz0 hz1 hz2 rfl (by decide) _ _ _ rfl (hown5.out.alloc _) ⟨w5.heap.size, 0, none⟩ 1 1 (iv [r]) rfl rfl ?c1 ?c2 ?c3 ?c4 ?c5 ?_)
          case c1 => exact cell_one_new _ _ _
          case c2 => exact iv_one _
          case c3 => have := HLN.out; unfold maxLen; omega
          case c4 => have := HLN.out; omega
          case c5 => have := hA5.out.2.size; simp; omega
          intro v' w9 hown' hgrow' _
          rw [iv_app] at hown'
          have hsz : w.heap.size ≤ w5.heap.size := hA5.out.2.size
          have hb3 : Below w.heap.size w5 w9 := ((Below.refl _ _).alloc hsz _).grown hgrow' (by simp; omega) (ownsRow_block hown5.out)
          have H3 : Hid (Cur w9 g a n cap B (m + 2000) ∧ Aft B g w w9) := by
            refine ⟨(hA5.out.1.lowP HJ.out.1 hb3).more (by have := HLN.out; simp; omega), hA5.out.2.below.trans (hb3.mono (by have := HJ.out; omega)), Nat.le_trans hsz hb3.size, fun x hx hl => (hb3.block x hl).trans (hA5.out.2.blk x hx hl)⟩
          have HO3 : Hid (w9.ownsRow w.heap.size 3 1 v' (L ++ [r]).length (iv (L ++ [r]))) := by unfold Hid; simpa using hown'
          clear hgrow' hown' hb3 hsz hA5 hown5
          go_wp2
          go_ret
          exact ⟨_, L ++ [r], rfl, by have := HLN.out; simp; omega, HO3, H3.out.1, H3.out.2⟩

end Go.Proofs.YtpmfihnhcgmjfaaDoor
