/-
  The library's search for one of three signs, in any text, good or not.
-/
import Derived.Test.YtebendaiokchdaaDoorYSh
import Derived.Test.YtebendaiokchdaaDoorIn
import Derived.Test.YtebendaiokchdaaDoorBel
import Derived.Test.YtebendaiokchdaaDoorQHide
import Derived.Laws.RangeAny
import Derived.PlainAid
import Derived.Lib.IndexLaws
import Derived.Laws.Runes
namespace Go.Proofs.YtebendaiokchdaaDoor
open Go.ChangeShapes Go.WideShapes Go.ChangeAt Go.RowKit Go.PlainAid Go.Shelf

def sg3 : ByteArray := ⟨#[60, 44, 62]⟩
theorem ib_no : ∀ (l : List UInt8) (b : Int), 128 ≤ b → b ≤ 255 → (∀ x ∈ l, x.toNat < 128) → Lib.indexByte l b.toNat.toUInt8 = -1
  | [], b, _, _, _ => rfl
  | x :: l, b, h0, h1, h => by
    have hx := h x (by simp)
    have hne : (x == b.toNat.toUInt8) = false := by
      rw [beq_eq_false_iff_ne]
      intro e
      rw [e] at hx
      have : (b.toNat.toUInt8).toNat = b.toNat := by simp; omega
      omega
    unfold Lib.indexByte
    rw [hne, ib_no l b h0 h1 (fun y hy => h y (by simp [hy]))]
    rfl
/-- A rune beyond 127 as bytes: two to four, the last one beyond 127. -/
theorem enc_high (r : Int) (h0 : 128 ≤ r) (h1 : r ≤ 2147483647) : ∃ rs : ByteArray, Utf8.encode r = rs ∧ ((rs.size = 2 ∧ 128 ≤ bt rs 1) ∨ (rs.size = 3 ∧ 128 ≤ bt rs 2) ∨ (rs.size = 4 ∧ 128 ≤ bt rs 3)) := by
  refine ⟨_, rfl, ?_⟩
  unfold Utf8.encode
  obtain ⟨c, hc, hcb⟩ : ∃ c : Nat, (if Utf8.valid r then r.toNat else Utf8.runeError) = c ∧ 128 ≤ c := by
    refine ⟨_, rfl, ?_⟩
    split
    · omega
    · decide
  simp only [hc]
  have h3 : ¬ c < 128 := by omega
  rw [if_neg h3]
  have hlast : 128 ≤ ((UInt8.ofNat (128 + c % 64)).toNat : Int) := by simp; omega
  split
  · left
    exact ⟨rfl, by unfold bt; split <;> rename_i hq <;> first | exact hlast | exact absurd (show 1 < 2 from by omega) hq⟩
  · split
    · right; left
      exact ⟨rfl, by unfold bt; split <;> rename_i hq <;> first | exact hlast | exact absurd (show 2 < 3 from by omega) hq⟩
    · right; right
      exact ⟨rfl, by unfold bt; split <;> rename_i hq <;> first | exact hlast | exact absurd (show 3 < 4 from by omega) hq⟩

theorem below_iter (w : World) (s : ByteArray) (p : Nat) : Below w.heap.size w (w.iter s p) := by
  unfold World.iter
  exact (Below.refl _ _).alloc (Nat.le_refl _) _

set_option maxRecDepth 100000 in
set_option maxHeartbeats 1600000 in
theorem runeNone (r : Int) (h0 : 128 ≤ r) (h1 : r ≤ 2147483647) (w : World) :
    Calls Tryd.prog 44 #[.string sg3, .int .i32 r] w fun e w' => e = .returned (.int .i64 (-1)) ∧ Below w.heap.size w w' := by
  have V := fun w => Tryd.utf8_ValidRune r w
  have IB := fun b w => Tryd.strings_IndexByte (sg3.extract 2 3) b w
  have IB2 := fun b w => Tryd.strings_IndexByte (sg3.extract 3 3) b w
  have hn0 : decide (r < 128) = false := by simpa using h0
  have hp0 : 0 ≤ r := by omega
  by_cases he : r = 65533
  · subst he
    clear V IB IB2 hn0 hp0 h0 h1
    unfold sg3
    go_enter Tryd.func44, Tryd.ntmps44
    go_wp2
    go_loopg [5, 6] 3 (fun g _ _ wx => ∃ i : Nat, i + g = 3 ∧ wx = w.iter ⟨#[60, 44, 62]⟩ i)
    case atStart => exact ⟨0, by omega, rfl⟩
    case round =>
      obtain ⟨i, hig, rfl⟩ := hrel
      cases gk with
      | zero =>
        obtain rfl : i = 3 := by omega
        have hnx := fun ty => run_next_end (P := Tryd.prog) w ⟨#[60, 44, 62]⟩ 3 ty (by decide)
        go_wp2
        go_ret
        exact ⟨rfl, below_iter w _ _⟩
      | succ g =>
        obtain ⟨x, hx, hx128, hi⟩ : ∃ x : Nat, (∀ h : i < (⟨#[60, 44, 62]⟩ : ByteArray).size, ((⟨#[60, 44, 62]⟩ : ByteArray)[i]'h).toNat = x) ∧ x < 128 ∧ i < (⟨#[60, 44, 62]⟩ : ByteArray).size := by
          have h3 : i = 0 ∨ i = 1 ∨ i = 2 := by omega
          rcases h3 with rfl | rfl | rfl
          · exact ⟨60, fun _ => rfl, by decide, by decide⟩
          · exact ⟨44, fun _ => rfl, by decide, by decide⟩
          · exact ⟨62, fun _ => rfl, by decide, by decide⟩
        have hnx := fun ty => run_next_ascii (P := Tryd.prog) w ⟨#[60, 44, 62]⟩ i ty hi (by rw [hx hi]; exact hx128)
        rw [hx hi] at hnx
        have hne : ((x : Int) == 65533) = false := by rw [beq_eq_false_iff_ne]; omega
        clear hx
        go_wp2
        go_roundg g
        case measure => omega
        case rel => exact ⟨i + 1, by omega, rfl⟩
  · have hne : ¬ r = 65533 := he
    obtain ⟨rs, hrs, hc⟩ := enc_high r h0 h1
    cases hv : Lib.validRune r with
    | false =>
      rw [hv] at V
      clear IB IB2 hc hrs h0 h1 he
      go_enter Tryd.func44, Tryd.ntmps44
      go_wp2_with (go_at_call 55; refine (V _).mono ?_; rintro e w1 ⟨rfl, rfl⟩; clear V)
      go_ret
      exact ⟨rfl, Below.refl _ _⟩
    | true =>
      rw [hv] at V
      have us : (Tryd.prog.underlying 21).isSome = true := by kernel_rfl
      have ud : Tryd.prog.underlying 9 = some .string := Tryd.underlying9
      clear h0 h1 he hv
      rcases hc with ⟨hz, hb⟩ | ⟨hz, hb⟩ | ⟨hz, hb⟩
      · have e1 := get_bt rs 1 (by omega)
        have b1 := bt_le rs 1
        obtain ⟨b, hbb⟩ : ∃ b, bt rs 1 = b := ⟨_, rfl⟩
        rw [hbb] at e1 b1 hb
        clear hbb
        have hx := ib_no (sg3.extract 2 3).data.toList b hb b1 (by decide)
        have IX : ∀ w, Calls Tryd.prog 54 #[.string (sg3.extract 2 3), .int .u8 b] w fun e w' => e = .returned (.int .i64 (-1)) ∧ w' = w := fun w => by have h := IB b w; rw [hx] at h; exact h
        have hnb : ((44 : Int) == b) = false := by rw [beq_eq_false_iff_ne]; omega
        have hnb2 : (!((44 : Int) == b)) = true := by rw [hnb]; rfl
        have hne2 : ((44 : Int) != b) = true := by rw [bne_iff_ne]; omega
        have e0 : (((⟨#[60, 44, 62]⟩ : ByteArray)[1]'(by decide)).toNat : Int) = 44 := by decide
        clear IB IB2 hx
        unfold sg3 at IX ⊢
        go_enter Tryd.func44, Tryd.ntmps44
        go_wp2_with (go_at_call 55; refine (V _).mono ?_; rintro e w1 ⟨rfl, rfl⟩; clear V)
        go_step3
        go_wp2
        go_loopw [9] (fun i wr => i = .int .i64 1 ∧ wr = w1) (fun _ _ => 0)
        case atStart => exact ⟨rfl, rfl⟩
        case round =>
          obtain ⟨rfl, rfl⟩ := hrel
          go_wp2
          go_step3
          go_wp2
          go_quiet (fail)
          have hk2 : IntKind.i64.wrap 2 = 2 := by decide
          have hk3 : IntKind.i64.wrap 3 = 3 := by decide
          go_wp2_with fail
          refine region_q (C := Keeps (wr.drewN nq)) (by kernel_rfl) (by kernel_rfl) (Keeps.drew (wr.drewN nq)) ?_
          (iterate 9
    (apply wpQuiet_go _ (by rfl)
     · intro wq hq
       go_simp
       first
         | (go_at_call 54; exact qsame hq (IX _))
         | exact rfl
     simp only [Act.put, List.setIfInBounds_toArray, List.set_cons_succ, List.set_cons_zero]))
          refine wpQuiet_nil ?_
          intro w2 hk
          have hb : Below wr.heap.size wr w2 := (below_drewN (Below.refl _ _) nq).trans hk.below
          go_wp2
          refine (show bodyPost Tryd.prog Tryd.f44 (fun e w' => e = .returned (.int .i64 (-1)) ∧ Below wr.heap.size wr w') Exit.ret _ _ from ?_)
          go_ret
          exact ⟨rfl, hb⟩
      · have e1 := get_bt rs 2 (by omega)
        have b1 := bt_le rs 2
        obtain ⟨b, hbb⟩ : ∃ b, bt rs 2 = b := ⟨_, rfl⟩
        rw [hbb] at e1 b1 hb
        clear hbb
        have hx := ib_no (sg3.extract 3 3).data.toList b hb b1 (by decide)
        have IX : ∀ w, Calls Tryd.prog 54 #[.string (sg3.extract 3 3), .int .u8 b] w fun e w' => e = .returned (.int .i64 (-1)) ∧ w' = w := fun w => by have h := IB2 b w; rw [hx] at h; exact h
        have hnb : ((62 : Int) == b) = false := by rw [beq_eq_false_iff_ne]; omega
        have hnb2 : (!((62 : Int) == b)) = true := by rw [hnb]; rfl
        have hne2 : ((62 : Int) != b) = true := by rw [bne_iff_ne]; omega
        have e0 : (((⟨#[60, 44, 62]⟩ : ByteArray)[2]'(by decide)).toNat : Int) = 62 := by decide
        clear IB IB2 hx
        unfold sg3 at IX ⊢
        go_enter Tryd.func44, Tryd.ntmps44
        go_wp2_with (go_at_call 55; refine (V _).mono ?_; rintro e w1 ⟨rfl, rfl⟩; clear V)
        go_step3
        go_wp2
        go_loopw [9] (fun i wr => i = .int .i64 2 ∧ wr = w1) (fun _ _ => 0)
        case atStart => exact ⟨rfl, rfl⟩
        case round =>
          obtain ⟨rfl, rfl⟩ := hrel
          go_wp2
          go_step3
          go_wp2
          go_quiet (fail)
          have hk2 : IntKind.i64.wrap 2 = 2 := by decide
          have hk3 : IntKind.i64.wrap 3 = 3 := by decide
          go_wp2_with fail
          refine region_q (C := Keeps (wr.drewN nq)) (by kernel_rfl) (by kernel_rfl) (Keeps.drew (wr.drewN nq)) ?_
          (iterate 9
    (apply wpQuiet_go _ (by rfl)
     · intro wq hq
       go_simp
       first
         | (go_at_call 54; exact qsame hq (IX _))
         | exact rfl
     simp only [Act.put, List.setIfInBounds_toArray, List.set_cons_succ, List.set_cons_zero]))
          refine wpQuiet_nil ?_
          intro w2 hk
          have hb : Below wr.heap.size wr w2 := (below_drewN (Below.refl _ _) nq).trans hk.below
          go_wp2
          refine (show bodyPost Tryd.prog Tryd.f44 (fun e w' => e = .returned (.int .i64 (-1)) ∧ Below wr.heap.size wr w') Exit.ret _ _ from ?_)
          go_ret
          exact ⟨rfl, hb⟩
      · have e1 := get_bt rs 3 (by omega)
        have b1 := bt_le rs 3
        obtain ⟨b, hbb⟩ : ∃ b, bt rs 3 = b := ⟨_, rfl⟩
        rw [hbb] at e1 b1 hb
        clear hbb
        clear IB IB2
        unfold sg3
        go_enter Tryd.func44, Tryd.ntmps44
        go_wp2_with (go_at_call 55; refine (V _).mono ?_; rintro e w1 ⟨rfl, rfl⟩; clear V)
        go_step3
        go_wp2
        go_loopw [9] (fun i wr => i = .int .i64 3 ∧ wr = w1) (fun _ _ => 0)
        case atStart => exact ⟨rfl, rfl⟩
        case round =>
          obtain ⟨rfl, rfl⟩ := hrel
          go_wp2
          rw [Exit.noGoto_ret]
          go_ret
          exact ⟨rfl, Below.refl _ _⟩

end Go.Proofs.YtebendaiokchdaaDoor
