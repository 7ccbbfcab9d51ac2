/-
  The law on division.
-/
import Derived.Test.YtcnjllecobhalaaCurE
import Derived.Test.YtcnjllecobhalaaFDivd
import Derived.Test.YtcnjllecobhalaaKeep
import Derived.Test.YtcnjllecobhalaaBel
namespace Go.Proofs.Ytcnjllecobhalaa
open Go.RowKit

set_option maxHeartbeats 4000000 in
set_option maxRecDepth 2000000 in
theorem dividedB (a1 : Option Addr) (n1 c1 : Nat) (w : World) (h1 : Bys w a1 n1 w.heap.size) :
    Calls Try.prog 3 #[.slice a1 n1 c1] w fun e w' => e = .returned (.bool true) ∧ Below w.heap.size w w' := by
  obtain ⟨N, hN⟩ : ∃ N : Int, (n1 : Int) = N := ⟨_, rfl⟩
  by_cases hlen : 1048576 < N
  · go_enter Try.func3, Try.ntmps3
    go_wp2
    go_ret
    exact ⟨rfl, Below.refl _ _⟩
  · go_enter Try.func3, Try.ntmps3
    go_wp2_with fail
    refine (drawBin a1 n1 c1 w h1).mono ?_
    rintro e w1 ⟨b, o, x, y, b0, b1, o0, o1, x0, x1, y0, y1, rfl, B1⟩
    obtain ⟨r, t, I, S⟩ := bin_both b o x y x0 x1 y0 y1
    have PS : Hid (Fits b 4 6 x y false true) := pairS b x y x0 x1 y0 y1
    have PU : Hid (Fits b 5 7 x y true false) := pairU b x y x0 x1 y0 y1
    clear b0 b1 o0 o1 x0 x1 y0 y1
    go_wp2_with fail
    refine (S.out _).mono ?_
    rintro e w2 ⟨rfl, B2⟩
    go_wp2_with fail
    refine (I.out _).mono ?_
    rintro e w' ⟨rfl, hw⟩
    obtain rfl := hw.symm
    clear I S hw
    have HB2 : Hid (Below w.heap.size w w2) := bel_step B1 B2
    obtain ⟨W, hW⟩ : ∃ W, ((w2.alloc (.cells #[.int .i64 4, .int .i64 6] 3)).alloc (.cells #[.int .i64 5, .int .i64 7] 3)).alloc (.cells #[.slice (some ⟨w2.heap.size, 0, none⟩) 2 2, .slice (some ⟨w2.heap.size + 1, 0, none⟩) 2 2] 28) = W := ⟨_, rfl⟩
    have HBW : Hid (Below w.heap.size w W) := by
      unfold Hid; rw [← hW]; exact bel_alloc (bel_alloc (bel_alloc HB2.out _) _) _
    obtain ⟨z, hz⟩ : ∃ z, w2.heap.size = z := ⟨_, rfl⟩
    have p0 : W.cell? ⟨z, 0, none⟩ = some (.int .i64 4) := by rw [← hW, ← hz]; exact pastCell (by simp; omega) (pastCell (by simp) (by simp))
    have p1 : W.cell? ⟨z, 1, none⟩ = some (.int .i64 6) := by rw [← hW, ← hz]; exact pastCell (by simp; omega) (pastCell (by simp) (by simp))
    have q0 : W.cell? ⟨z + 1, 0, none⟩ = some (.int .i64 5) := by rw [← hW, ← hz]; exact pastCell (by simp) (newCell (by simp) rfl)
    have q1 : W.cell? ⟨z + 1, 1, none⟩ = some (.int .i64 7) := by rw [← hW, ← hz]; exact pastCell (by simp) (newCell (by simp) rfl)
    have s0 : W.cell? ⟨z + 1 + 1, 0, none⟩ = some (.slice (some ⟨z, 0, none⟩) 2 2) := by rw [← hW, ← hz]; exact newCell (by simp) rfl
    have s1 : W.cell? ⟨z + 1 + 1, 1, none⟩ = some (.slice (some ⟨z + 1, 0, none⟩) 2 2) := by rw [← hW, ← hz]; exact newCell (by simp) rfl
    have hWs : W.heap.size = z + 3 := by rw [← hW, ← hz]; simp
    have HC : Hid (∀ w', Below W.heap.size W w' → w'.cell? ⟨z, 0, none⟩ = some (.int .i64 4) ∧ w'.cell? ⟨z, 1, none⟩ = some (.int .i64 6) ∧ w'.cell? ⟨z + 1, 0, none⟩ = some (.int .i64 5) ∧ w'.cell? ⟨z + 1, 1, none⟩ = some (.int .i64 7) ∧ w'.cell? ⟨z + 1 + 1, 0, none⟩ = some (.slice (some ⟨z, 0, none⟩) 2 2) ∧ w'.cell? ⟨z + 1 + 1, 1, none⟩ = some (.slice (some ⟨z + 1, 0, none⟩) 2 2)) := fun w' h => ⟨keepCell h (by omega) p0, keepCell h (by omega) p1, keepCell h (by omega) q0, keepCell h (by omega) q1, keepCell h (by omega) s0, keepCell h (by omega) s1⟩
    clear p0 p1 q0 q1 s0 s1 B1 B2 HB2
    rw [hz] at hW
    go_wp2
    go_loopw [67] (fun ix wr => ∃ k : Nat, k ≤ 2 ∧ ix = .int .i64 (k : Int) ∧ Below W.heap.size W wr) (fun i _ => 2 - (intOf i).toNat)
    case atStart => exact ⟨0, by omega, rfl, Below.refl _ _⟩
    case round =>
      obtain ⟨k, hk, rfl, hnx⟩ := hrel
      have hB : Hid (Below w.heap.size w wr) := bel_step HBW.out hnx
      obtain ⟨c0, c1, c2, c3, c4, c5⟩ := HC.out wr hnx
      have hcases : k = 0 ∨ k = 1 ∨ k = 2 := by omega
      rcases hcases with rfl | rfl | rfl
      · rcases PS.out with ⟨q, r9, t1, t2, D, R, ht⟩ | ⟨q, r9, p, l, s, sx, sy, D, R, M, A, Wh, Lt, G1, G2, hl, hs⟩
        · have HD : Hid (Tells b 4 x y q t1) := D
          have HR : Hid (Tells b 6 x y r9 t2) := R
          clear D R
          go_wp2_with fail
          refine (HD.out _).mono ?_
          rintro e w3 ⟨rfl, b3⟩
          have n3 := hnx.trans (b3.mono hnx.size)
          obtain ⟨d0, d1, d2, d3, d4, d5⟩ := HC.out w3 n3
          clear b3 c0 c1 c2 c3 c4 c5
          go_wp2_with fail
          refine (HR.out _).mono ?_
          rintro e w4 ⟨rfl, b4⟩
          have n4 := n3.trans (b4.mono n3.size)
          clear b4 d0 d1 d2 d3 d4 d5 HD HR
          rcases ht with ht | ⟨ht, ht2⟩
          all_goals
            go_wp2
            go_roundw
            case rel => exact ⟨1, by omega, by go_num, n4⟩
            case measure => simp [intOf]
        · have HD : Hid (Tells b 4 x y q 0) := D
          have HR : Hid (Tells b 6 x y r9 0) := R
          have HM : Hid (Tells b 3 q y p 0) := M
          have HA : Hid (Tells b 1 p r9 s 0) := A
          have HW9 : Hid (Tells b 1 x 0 s 0) := Wh
          have HL : Hid (Tells b 19 r9 y l 0) := Lt
          have HG1 : Hid (Signs b r9 sx) := G1
          have HG2 : Hid (Signs b x sy) := G2
          have HSG : Hid (true = true → sx = 0 ∨ decide (sx < 0) = decide (sy < 0)) := hs
          have HLT : Hid (false = true → l = 1) := hl
          clear D R M A Wh Lt G1 G2 hs hl
          go_wp2_with fail
          refine (HD.out _).mono ?_
          rintro e w3 ⟨rfl, b3⟩
          have n3 := hnx.trans (b3.mono hnx.size)
          obtain ⟨d0, d1, d2, d3, d4, d5⟩ := HC.out w3 n3
          clear b3 c0 c1 c2 c3 c4 c5
          go_wp2_with fail
          refine (HR.out _).mono ?_
          rintro e w4 ⟨rfl, b4⟩
          have n4 := n3.trans (b4.mono n3.size)
          clear b4 d0 d1 d2 d3 d4 d5
          go_wp2_with fail
          refine (HM.out _).mono ?_
          rintro e w5 ⟨rfl, b5⟩
          have n5 := n4.trans (b5.mono n4.size)
          clear b5
          go_wp2_with fail
          refine (HA.out _).mono ?_
          rintro e w6 ⟨rfl, b6⟩
          have n6 := n5.trans (b6.mono n5.size)
          clear b6
          go_wp2_with fail
          refine (HW9.out _).mono ?_
          rintro e w7 ⟨rfl, b7⟩
          have n7 := n6.trans (b7.mono n6.size)
          clear b7
          go_wp2_with fail
          refine (HL.out _).mono ?_
          rintro e w8 ⟨rfl, b8⟩
          have n8 := n7.trans (b8.mono n7.size)
          obtain ⟨d0, d1, d2, d3, d4, d5⟩ := HC.out w8 n8
          clear b8
          go_wp2_with fail
          refine (HG1.out _).mono ?_
          rintro e w9 ⟨rfl, hw9⟩
          obtain rfl := hw9.symm
          go_wp2_with fail
          refine (HG2.out _).mono ?_
          rintro e w10 ⟨rfl, hw10⟩
          obtain rfl := hw10.symm
          by_cases hz0 : sx = 0
          · subst hz0
            clear HSG HLT
            go_wp2
            go_roundw
            case rel => exact ⟨1, by omega, by go_num, n8⟩
            case measure => simp [intOf]
          · have hz1 : (sx != 0) = true := by simp [hz0]
            have hz2 := (HSG.out (by trivial)).resolve_left hz0
            obtain ⟨bb, hbb⟩ : ∃ bb, decide (sy < 0) = bb := ⟨_, rfl⟩
            rw [hbb] at hz2
            clear HSG HLT hz0
            cases bb
            all_goals
              go_wp2
              go_roundw
              case rel => exact ⟨1, by omega, by go_num, n8⟩
              case measure => simp [intOf]
      · rcases PU.out with ⟨q, r9, t1, t2, D, R, ht⟩ | ⟨q, r9, p, l, s, sx, sy, D, R, M, A, Wh, Lt, G1, G2, hl, hs⟩
        · have HD : Hid (Tells b 5 x y q t1) := D
          have HR : Hid (Tells b 7 x y r9 t2) := R
          clear D R
          go_wp2_with fail
          refine (HD.out _).mono ?_
          rintro e w3 ⟨rfl, b3⟩
          have n3 := hnx.trans (b3.mono hnx.size)
          obtain ⟨d0, d1, d2, d3, d4, d5⟩ := HC.out w3 n3
          clear b3 c0 c1 c2 c3 c4 c5
          go_wp2_with fail
          refine (HR.out _).mono ?_
          rintro e w4 ⟨rfl, b4⟩
          have n4 := n3.trans (b4.mono n3.size)
          clear b4 d0 d1 d2 d3 d4 d5 HD HR
          rcases ht with ht | ⟨ht, ht2⟩
          all_goals
            go_wp2
            go_roundw
            case rel => exact ⟨2, by omega, by go_num, n4⟩
            case measure => simp [intOf]
        · have HD : Hid (Tells b 5 x y q 0) := D
          have HR : Hid (Tells b 7 x y r9 0) := R
          have HM : Hid (Tells b 3 q y p 0) := M
          have HA : Hid (Tells b 1 p r9 s 0) := A
          have HW9 : Hid (Tells b 1 x 0 s 0) := Wh
          have HL : Hid (Tells b 19 r9 y l 0) := Lt
          have HG1 : Hid (Signs b r9 sx) := G1
          have HG2 : Hid (Signs b x sy) := G2
          have HSG : Hid (false = true → sx = 0 ∨ decide (sx < 0) = decide (sy < 0)) := hs
          have HLT : Hid (true = true → l = 1) := hl
          clear D R M A Wh Lt G1 G2 hs hl
          go_wp2_with fail
          refine (HD.out _).mono ?_
          rintro e w3 ⟨rfl, b3⟩
          have n3 := hnx.trans (b3.mono hnx.size)
          obtain ⟨d0, d1, d2, d3, d4, d5⟩ := HC.out w3 n3
          clear b3 c0 c1 c2 c3 c4 c5
          go_wp2_with fail
          refine (HR.out _).mono ?_
          rintro e w4 ⟨rfl, b4⟩
          have n4 := n3.trans (b4.mono n3.size)
          clear b4 d0 d1 d2 d3 d4 d5
          go_wp2_with fail
          refine (HM.out _).mono ?_
          rintro e w5 ⟨rfl, b5⟩
          have n5 := n4.trans (b5.mono n4.size)
          clear b5
          go_wp2_with fail
          refine (HA.out _).mono ?_
          rintro e w6 ⟨rfl, b6⟩
          have n6 := n5.trans (b6.mono n5.size)
          clear b6
          go_wp2_with fail
          refine (HW9.out _).mono ?_
          rintro e w7 ⟨rfl, b7⟩
          have n7 := n6.trans (b7.mono n6.size)
          clear b7
          go_wp2_with fail
          refine (HL.out _).mono ?_
          rintro e w8 ⟨rfl, b8⟩
          have n8 := n7.trans (b8.mono n7.size)
          obtain ⟨d0, d1, d2, d3, d4, d5⟩ := HC.out w8 n8
          clear b8
          have hl1 := HLT.out (by trivial)
          subst hl1
          go_wp2_with fail
          refine (HG1.out _).mono ?_
          rintro e w9 ⟨rfl, hw9⟩
          obtain rfl := hw9.symm
          go_wp2_with fail
          refine (HG2.out _).mono ?_
          rintro e w10 ⟨rfl, hw10⟩
          obtain rfl := hw10.symm
          clear HSG HLT
          go_wp2
          go_roundw
          case rel => exact ⟨2, by omega, by go_num, n8⟩
          case measure => simp [intOf]
      · clear c0 c1 c2 c3 c4 c5 PS PU HC
        go_wp2
        go_ret
        exact ⟨rfl, hB.out⟩

end Go.Proofs.Ytcnjllecobhalaa
