/-
  A text taken up out of a memory: both functions, and the law. (Made by a generator.)
-/
import Derived.Test.YtgepplddhmgifaaDoorLX3
namespace Go.Proofs.YtgepplddhmgifaaDoor
open Go.ChangeShapes Go.WideShapes Go.ChangeAt Go.RowKit Go.PlainAid

def pl (n : Int) : Bool := decide (0 ≤ n) && decide (n ≤ 4294967295)
theorem pl_yes {n : Int} (h : pl n = true) : 0 ≤ n ∧ n ≤ 4294967295 := by simpa [pl] using h
def cdB (c : Int) : Bool := decide (1 ≤ c ∧ c ≤ 3)
def ltOk (M : Int) (D : ByteArray) (at' count code : Int) : Bool := good M D && (pl at' && (pl count && cdB code))
def ltV (M : Int) (D : ByteArray) (at' count code : Int) : Value :=
  if ltOk M D at' count code = true then .tuple #[.string (txIn D at' count code).1, .int .i64 (txIn D at' count code).2] else .tuple #[.string ⟨#[]⟩, .int .i64 1]
theorem ltV_form (M : Int) (D : ByteArray) (at' count code : Int) : ∃ x y, ltV M D at' count code = .tuple #[.string x, .int .i64 y] := by
  unfold ltV; split
  · exact ⟨_, _, rfl⟩
  · exact ⟨_, _, rfl⟩

theorem implIsPlace (n : Int) (w : World) : Calls Tryd.prog 37 #[.int .i64 n] w fun e w' => e = .returned (.bool (pl n)) ∧ w' = w := by
  by_cases h : 0 ≤ n
  · have d : decide (0 ≤ n) = true := by simpa using h
    rw [show pl n = decide (n ≤ 4294967295) by unfold pl; rw [d]; rfl]
    obtain ⟨r, hr⟩ : ∃ r, decide (n ≤ 4294967295) = r := ⟨_, rfl⟩
    rw [hr]
    clear h
    go_enter Tryd.func37, Tryd.ntmps37
    go_wp2
    go_ret
    exact ⟨rfl, rfl⟩
  · have d : decide (0 ≤ n) = false := by simpa using h
    rw [show pl n = false by unfold pl; rw [d]; rfl]
    clear h
    go_enter Tryd.func37, Tryd.ntmps37
    go_wp2
    go_ret
    exact ⟨rfl, rfl⟩

theorem specPlace (n : Int) (w : World) : Calls Tryd.prog 34 #[.int .i64 n] w fun e w' => e = .returned (.bool (pl n)) ∧ w' = w := by
  have IN := in_eq n 0 4294967295 (pl n) rfl
  generalize pl n = r at *
  go_enter Tryd.func34, Tryd.ntmps34
  go_wp2_with (go_at_call 39; refine (IN _).mono ?_; rintro e w' ⟨rfl, hw⟩; obtain rfl := hw.symm; clear IN)
  go_ret
  exact ⟨rfl, rfl⟩

set_option maxRecDepth 2000000 in
set_option maxHeartbeats 1600000 in
theorem implLiftText (M : Int) (D : ByteArray) (at' count code : Int) (hD : D.size ≤ 1048576) (w : World) (hT : Hid (UTabs w)) :
    Calls Tryd.prog 16 #[.agg #[.int .i64 M, .string D], .int .i64 at', .int .i64 count, .int .i64 code] w fun e w' => e = .returned (ltV M D at' count code) ∧ Below w.heap.size w w' := by
  have HG := mGoodI M D hD
  have HP := implIsPlace
  have HC := implCode code
  have hcd : decide (1 ≤ code ∧ code ≤ 3) = cdB code := rfl
  rw [hcd] at HC
  obtain ⟨g, hgs⟩ : ∃ g, w.heap.size = g := ⟨_, rfl⟩
  cases g1 : good M D with
  | false =>
    rw [show ltV M D at' count code = .tuple #[.string ⟨#[]⟩, .int .i64 1] by unfold ltV ltOk; rw [g1]; rfl]
    rw [g1] at HG
    clear hD g1 HP HC hcd
    go_enter Tryd.func16, Tryd.ntmps16
    go_wp2_with fail
    refine (HG _).mono ?_
    rintro e w1 ⟨rfl, B1⟩
    have hs := B1.size
    simp at hs
    have q0 : w1.cell? ⟨g, 0, none⟩ = some (.int .i64 M) := keepCell B1 (by simp; omega) (newCell (by omega) rfl)
    have q1 : w1.cell? ⟨g, 1, none⟩ = some (.string D) := keepCell B1 (by simp; omega) (newCell (by omega) rfl)
    have hB1 : Below w.heap.size w w1 := by ((repeat (first | refine bel_alloc ?_ _ | refine bel_dN ?_ _ | refine Below.drew ?_ | refine Below.setCell ?_ (by first | (simp; done) | (simp; omega)) _)); refine bel_step ?_ B1; (repeat (first | refine bel_alloc ?_ _ | refine bel_dN ?_ _ | refine Below.drew ?_ | refine Below.setCell ?_ (by first | (simp; done) | (simp; omega)) _)); exact Below.refl _ _)
    clear HG B1
    go_wp2
    go_ret2
    exact ⟨rfl, hB1⟩
  | true =>
    rw [g1] at HG
    cases g2 : pl at' with
    | false =>
      rw [show ltV M D at' count code = .tuple #[.string ⟨#[]⟩, .int .i64 1] by unfold ltV ltOk; rw [g1, g2]; rfl]
      clear hD g1 hcd
      go_enter Tryd.func16, Tryd.ntmps16
      go_wp2_with fail
      refine (HG _).mono ?_
      rintro e w1 ⟨rfl, B1⟩
      have hs := B1.size
      simp at hs
      have q0 : w1.cell? ⟨g, 0, none⟩ = some (.int .i64 M) := keepCell B1 (by simp; omega) (newCell (by omega) rfl)
      have q1 : w1.cell? ⟨g, 1, none⟩ = some (.string D) := keepCell B1 (by simp; omega) (newCell (by omega) rfl)
      have hB1 : Below w.heap.size w w1 := by ((repeat (first | refine bel_alloc ?_ _ | refine bel_dN ?_ _ | refine Below.drew ?_ | refine Below.setCell ?_ (by first | (simp; done) | (simp; omega)) _)); refine bel_step ?_ B1; (repeat (first | refine bel_alloc ?_ _ | refine bel_dN ?_ _ | refine Below.drew ?_ | refine Below.setCell ?_ (by first | (simp; done) | (simp; omega)) _)); exact Below.refl _ _)
      clear HG B1
      go_wp2_with (first | (go_at_call 37; refine (HP _ _).mono ?_; rintro e w' ⟨rfl, hw⟩; obtain rfl := hw.symm; clear hw) | (go_at_call 31; refine (HC _).mono ?_; rintro e w' ⟨rfl, hw⟩; obtain rfl := hw.symm; clear hw))
      go_ret2
      exact ⟨rfl, hB1⟩
    | true =>
      cases g3 : pl count with
      | false =>
        rw [show ltV M D at' count code = .tuple #[.string ⟨#[]⟩, .int .i64 1] by unfold ltV ltOk; rw [g1, g2, g3]; rfl]
        clear hD g1 hcd
        go_enter Tryd.func16, Tryd.ntmps16
        go_wp2_with fail
        refine (HG _).mono ?_
        rintro e w1 ⟨rfl, B1⟩
        have hs := B1.size
        simp at hs
        have q0 : w1.cell? ⟨g, 0, none⟩ = some (.int .i64 M) := keepCell B1 (by simp; omega) (newCell (by omega) rfl)
        have q1 : w1.cell? ⟨g, 1, none⟩ = some (.string D) := keepCell B1 (by simp; omega) (newCell (by omega) rfl)
        have hB1 : Below w.heap.size w w1 := by ((repeat (first | refine bel_alloc ?_ _ | refine bel_dN ?_ _ | refine Below.drew ?_ | refine Below.setCell ?_ (by first | (simp; done) | (simp; omega)) _)); refine bel_step ?_ B1; (repeat (first | refine bel_alloc ?_ _ | refine bel_dN ?_ _ | refine Below.drew ?_ | refine Below.setCell ?_ (by first | (simp; done) | (simp; omega)) _)); exact Below.refl _ _)
        clear HG B1
        go_wp2_with (first | (go_at_call 37; refine (HP _ _).mono ?_; rintro e w' ⟨rfl, hw⟩; obtain rfl := hw.symm; clear hw) | (go_at_call 31; refine (HC _).mono ?_; rintro e w' ⟨rfl, hw⟩; obtain rfl := hw.symm; clear hw))
        go_ret2
        exact ⟨rfl, hB1⟩
      | true =>
        cases g4 : cdB code with
        | false =>
          rw [show ltV M D at' count code = .tuple #[.string ⟨#[]⟩, .int .i64 1] by unfold ltV ltOk; rw [g1, g2, g3, g4]; rfl]
          clear hD g1 hcd
          go_enter Tryd.func16, Tryd.ntmps16
          go_wp2_with fail
          refine (HG _).mono ?_
          rintro e w1 ⟨rfl, B1⟩
          have hs := B1.size
          simp at hs
          have q0 : w1.cell? ⟨g, 0, none⟩ = some (.int .i64 M) := keepCell B1 (by simp; omega) (newCell (by omega) rfl)
          have q1 : w1.cell? ⟨g, 1, none⟩ = some (.string D) := keepCell B1 (by simp; omega) (newCell (by omega) rfl)
          have hB1 : Below w.heap.size w w1 := by ((repeat (first | refine bel_alloc ?_ _ | refine bel_dN ?_ _ | refine Below.drew ?_ | refine Below.setCell ?_ (by first | (simp; done) | (simp; omega)) _)); refine bel_step ?_ B1; (repeat (first | refine bel_alloc ?_ _ | refine bel_dN ?_ _ | refine Below.drew ?_ | refine Below.setCell ?_ (by first | (simp; done) | (simp; omega)) _)); exact Below.refl _ _)
          clear HG B1
          go_wp2_with (first | (go_at_call 37; refine (HP _ _).mono ?_; rintro e w' ⟨rfl, hw⟩; obtain rfl := hw.symm; clear hw) | (go_at_call 31; refine (HC _).mono ?_; rintro e w' ⟨rfl, hw⟩; obtain rfl := hw.symm; clear hw))
          go_ret2
          exact ⟨rfl, hB1⟩
        | true =>
          have p1 := pl_yes g2
          have p2 := pl_yes g3
          have HI : Hid (∀ W, Below w.heap.size w W → Calls Tryd.prog 38 #[.string D, .int .i64 at', .int .i64 count, .int .i64 code] W fun e w' => e = .returned (.tuple #[.string (txIn D at' count code).1, .int .i64 (txIn D at' count code).2]) ∧ Below W.heap.size W w') := fun W hW => implTextIn D at' count code hD p1.1 p1.2 p2.1 p2.2 (by simpa [cdB] using g4) W (Utf8Tabs_below hT.out hW)
          rw [show ltV M D at' count code = .tuple #[.string (txIn D at' count code).1, .int .i64 (txIn D at' count code).2] by unfold ltV ltOk; rw [g1, g2, g3, g4]; rfl]
          generalize (txIn D at' count code).1 = X at *
          generalize (txIn D at' count code).2 = c at *
          clear hD g1 p1 p2 hcd
          go_enter Tryd.func16, Tryd.ntmps16
          go_wp2_with fail
          refine (HG _).mono ?_
          rintro e w1 ⟨rfl, B1⟩
          have hs := B1.size
          simp at hs
          have q0 : w1.cell? ⟨g, 0, none⟩ = some (.int .i64 M) := keepCell B1 (by simp; omega) (newCell (by omega) rfl)
          have q1 : w1.cell? ⟨g, 1, none⟩ = some (.string D) := keepCell B1 (by simp; omega) (newCell (by omega) rfl)
          have hB1 : Below w.heap.size w w1 := by ((repeat (first | refine bel_alloc ?_ _ | refine bel_dN ?_ _ | refine Below.drew ?_ | refine Below.setCell ?_ (by first | (simp; done) | (simp; omega)) _)); refine bel_step ?_ B1; (repeat (first | refine bel_alloc ?_ _ | refine bel_dN ?_ _ | refine Below.drew ?_ | refine Below.setCell ?_ (by first | (simp; done) | (simp; omega)) _)); exact Below.refl _ _)
          clear HG B1
          have H9 := HI.out w1 hB1
          go_wp2_with (first | (go_at_call 37; refine (HP _ _).mono ?_; rintro e w' ⟨rfl, hw⟩; obtain rfl := hw.symm; clear hw) | (go_at_call 31; refine (HC _).mono ?_; rintro e w' ⟨rfl, hw⟩; obtain rfl := hw.symm; clear hw))
          refine H9.mono ?_
          rintro e w2 ⟨rfl, B2⟩
          clear H9 HI q0 q1
          go_wp2
          go_ret2
          exact ⟨rfl, bel_stepK hB1 B2⟩

set_option maxRecDepth 2000000 in
set_option maxHeartbeats 1600000 in
theorem specLiftText (M : Int) (D : ByteArray) (at' count code : Int) (hD : D.size ≤ 1048576) (w : World) :
    Calls Tryd.prog 14 #[.agg #[.int .i64 M, .string D], .int .i64 at', .int .i64 count, .int .i64 code] w fun e w' => e = .returned (ltV M D at' count code) ∧ Below w.heap.size w w' := by
  have HG := mGoodS M D hD
  have HP := specPlace
  have HC := specCode code
  have hcd : decide (1 ≤ code ∧ code ≤ 3) = cdB code := rfl
  rw [hcd] at HC
  obtain ⟨g, hgs⟩ : ∃ g, w.heap.size = g := ⟨_, rfl⟩
  cases g1 : good M D with
  | false =>
    rw [show ltV M D at' count code = .tuple #[.string ⟨#[]⟩, .int .i64 1] by unfold ltV ltOk; rw [g1]; rfl]
    rw [g1] at HG
    clear hD g1 HP HC hcd
    go_enter Tryd.func14, Tryd.ntmps14
    go_wp2_with fail
    refine (HG _).mono ?_
    rintro e w1 ⟨rfl, B1⟩
    have hs := B1.size
    simp at hs
    have q0 : w1.cell? ⟨g, 0, none⟩ = some (.int .i64 M) := keepCell B1 (by simp; omega) (newCell (by omega) rfl)
    have q1 : w1.cell? ⟨g, 1, none⟩ = some (.string D) := keepCell B1 (by simp; omega) (newCell (by omega) rfl)
    have hB1 : Below w.heap.size w w1 := by ((repeat (first | refine bel_alloc ?_ _ | refine bel_dN ?_ _ | refine Below.drew ?_ | refine Below.setCell ?_ (by first | (simp; done) | (simp; omega)) _)); refine bel_step ?_ B1; (repeat (first | refine bel_alloc ?_ _ | refine bel_dN ?_ _ | refine Below.drew ?_ | refine Below.setCell ?_ (by first | (simp; done) | (simp; omega)) _)); exact Below.refl _ _)
    clear HG B1
    go_wp2
    go_ret2
    exact ⟨rfl, hB1⟩
  | true =>
    rw [g1] at HG
    cases g2 : pl at' with
    | false =>
      rw [show ltV M D at' count code = .tuple #[.string ⟨#[]⟩, .int .i64 1] by unfold ltV ltOk; rw [g1, g2]; rfl]
      clear hD g1 hcd
      go_enter Tryd.func14, Tryd.ntmps14
      go_wp2_with fail
      refine (HG _).mono ?_
      rintro e w1 ⟨rfl, B1⟩
      have hs := B1.size
      simp at hs
      have q0 : w1.cell? ⟨g, 0, none⟩ = some (.int .i64 M) := keepCell B1 (by simp; omega) (newCell (by omega) rfl)
      have q1 : w1.cell? ⟨g, 1, none⟩ = some (.string D) := keepCell B1 (by simp; omega) (newCell (by omega) rfl)
      have hB1 : Below w.heap.size w w1 := by ((repeat (first | refine bel_alloc ?_ _ | refine bel_dN ?_ _ | refine Below.drew ?_ | refine Below.setCell ?_ (by first | (simp; done) | (simp; omega)) _)); refine bel_step ?_ B1; (repeat (first | refine bel_alloc ?_ _ | refine bel_dN ?_ _ | refine Below.drew ?_ | refine Below.setCell ?_ (by first | (simp; done) | (simp; omega)) _)); exact Below.refl _ _)
      clear HG B1
      go_wp2_with (first | (go_at_call 34; refine (HP _ _).mono ?_; rintro e w' ⟨rfl, hw⟩; obtain rfl := hw.symm; clear hw) | (go_at_call 28; refine (HC _).mono ?_; rintro e w' ⟨rfl, hw⟩; obtain rfl := hw.symm; clear hw))
      go_ret2
      exact ⟨rfl, hB1⟩
    | true =>
      cases g3 : pl count with
      | false =>
        rw [show ltV M D at' count code = .tuple #[.string ⟨#[]⟩, .int .i64 1] by unfold ltV ltOk; rw [g1, g2, g3]; rfl]
        clear hD g1 hcd
        go_enter Tryd.func14, Tryd.ntmps14
        go_wp2_with fail
        refine (HG _).mono ?_
        rintro e w1 ⟨rfl, B1⟩
        have hs := B1.size
        simp at hs
        have q0 : w1.cell? ⟨g, 0, none⟩ = some (.int .i64 M) := keepCell B1 (by simp; omega) (newCell (by omega) rfl)
        have q1 : w1.cell? ⟨g, 1, none⟩ = some (.string D) := keepCell B1 (by simp; omega) (newCell (by omega) rfl)
        have hB1 : Below w.heap.size w w1 := by ((repeat (first | refine bel_alloc ?_ _ | refine bel_dN ?_ _ | refine Below.drew ?_ | refine Below.setCell ?_ (by first | (simp; done) | (simp; omega)) _)); refine bel_step ?_ B1; (repeat (first | refine bel_alloc ?_ _ | refine bel_dN ?_ _ | refine Below.drew ?_ | refine Below.setCell ?_ (by first | (simp; done) | (simp; omega)) _)); exact Below.refl _ _)
        clear HG B1
        go_wp2_with (first | (go_at_call 34; refine (HP _ _).mono ?_; rintro e w' ⟨rfl, hw⟩; obtain rfl := hw.symm; clear hw) | (go_at_call 28; refine (HC _).mono ?_; rintro e w' ⟨rfl, hw⟩; obtain rfl := hw.symm; clear hw))
        go_ret2
        exact ⟨rfl, hB1⟩
      | true =>
        cases g4 : cdB code with
        | false =>
          rw [show ltV M D at' count code = .tuple #[.string ⟨#[]⟩, .int .i64 1] by unfold ltV ltOk; rw [g1, g2, g3, g4]; rfl]
          clear hD g1 hcd
          go_enter Tryd.func14, Tryd.ntmps14
          go_wp2_with fail
          refine (HG _).mono ?_
          rintro e w1 ⟨rfl, B1⟩
          have hs := B1.size
          simp at hs
          have q0 : w1.cell? ⟨g, 0, none⟩ = some (.int .i64 M) := keepCell B1 (by simp; omega) (newCell (by omega) rfl)
          have q1 : w1.cell? ⟨g, 1, none⟩ = some (.string D) := keepCell B1 (by simp; omega) (newCell (by omega) rfl)
          have hB1 : Below w.heap.size w w1 := by ((repeat (first | refine bel_alloc ?_ _ | refine bel_dN ?_ _ | refine Below.drew ?_ | refine Below.setCell ?_ (by first | (simp; done) | (simp; omega)) _)); refine bel_step ?_ B1; (repeat (first | refine bel_alloc ?_ _ | refine bel_dN ?_ _ | refine Below.drew ?_ | refine Below.setCell ?_ (by first | (simp; done) | (simp; omega)) _)); exact Below.refl _ _)
          clear HG B1
          go_wp2_with (first | (go_at_call 34; refine (HP _ _).mono ?_; rintro e w' ⟨rfl, hw⟩; obtain rfl := hw.symm; clear hw) | (go_at_call 28; refine (HC _).mono ?_; rintro e w' ⟨rfl, hw⟩; obtain rfl := hw.symm; clear hw))
          go_ret2
          exact ⟨rfl, hB1⟩
        | true =>
          have p1 := pl_yes g2
          have p2 := pl_yes g3
          have HI : Hid (∀ W, Below w.heap.size w W → Calls Tryd.prog 35 #[.agg #[.int .i64 M, .string D], .int .i64 at', .int .i64 count, .int .i64 code] W fun e w' => e = .returned (.tuple #[.string (txIn D at' count code).1, .int .i64 (txIn D at' count code).2]) ∧ Below W.heap.size W w') := fun W hW => specLift M D at' count code hD p1.1 p1.2 p2.1 p2.2 (by simpa [cdB] using g4) W
          rw [show ltV M D at' count code = .tuple #[.string (txIn D at' count code).1, .int .i64 (txIn D at' count code).2] by unfold ltV ltOk; rw [g1, g2, g3, g4]; rfl]
          generalize (txIn D at' count code).1 = X at *
          generalize (txIn D at' count code).2 = c at *
          clear hD g1 p1 p2 hcd
          go_enter Tryd.func14, Tryd.ntmps14
          go_wp2_with fail
          refine (HG _).mono ?_
          rintro e w1 ⟨rfl, B1⟩
          have hs := B1.size
          simp at hs
          have q0 : w1.cell? ⟨g, 0, none⟩ = some (.int .i64 M) := keepCell B1 (by simp; omega) (newCell (by omega) rfl)
          have q1 : w1.cell? ⟨g, 1, none⟩ = some (.string D) := keepCell B1 (by simp; omega) (newCell (by omega) rfl)
          have hB1 : Below w.heap.size w w1 := by ((repeat (first | refine bel_alloc ?_ _ | refine bel_dN ?_ _ | refine Below.drew ?_ | refine Below.setCell ?_ (by first | (simp; done) | (simp; omega)) _)); refine bel_step ?_ B1; (repeat (first | refine bel_alloc ?_ _ | refine bel_dN ?_ _ | refine Below.drew ?_ | refine Below.setCell ?_ (by first | (simp; done) | (simp; omega)) _)); exact Below.refl _ _)
          clear HG B1
          have H9 := HI.out w1 hB1
          go_wp2_with (first | (go_at_call 34; refine (HP _ _).mono ?_; rintro e w' ⟨rfl, hw⟩; obtain rfl := hw.symm; clear hw) | (go_at_call 28; refine (HC _).mono ?_; rintro e w' ⟨rfl, hw⟩; obtain rfl := hw.symm; clear hw))
          refine H9.mono ?_
          rintro e w2 ⟨rfl, B2⟩
          clear H9 HI q0 q1
          go_wp2
          go_ret2
          exact ⟨rfl, bel_stepK hB1 B2⟩

theorem memCellsL : Tryd.prog.cellsOf 23 = 2 := by kernel_rfl
set_option maxRecDepth 100000 in
theorem open_memory {H : Type} {enc : TypeId × Value → H} {W : World} {b0 : Nat} {v : Value} {d : DataW H} {p : List MemPlace} (hv : Value.okWide Tryd.prog W .any b0 23 v)
    (h : DataW.Trod enc Tryd.prog W 0 (fun _ => true) true 23 v d p) : ∃ M D, v = .agg #[.int .i64 M, .string D] ∧ D.size ≤ maxLen := by
  obtain ⟨⟨cs⟩, rfl, hsz⟩ := okWide_struct Tryd.underlying23 hv
  rw [memCellsL] at hsz
  obtain ⟨c0, c1, rfl⟩ : ∃ c0 c1, cs = [c0, c1] := by
    match cs, hsz with
    | [c0, c1], _ => exact ⟨c0, c1, rfl⟩
  obtain ⟨fuel, h0⟩ := h
  obtain ⟨ys, m, _, _, _, hlen2, hg⟩ := DataW.trod_struct Tryd.underlying23 h0
  have g0 : DataW.trod enc Tryd.prog W 0 (fun _ => true) true m 3 (List.take (Tryd.prog.cellsOf 3) [c0, c1]) = ys[0]? := hg 0 _ rfl
  have g1 : DataW.trod enc Tryd.prog W 0 (fun _ => true) true m 9 (List.take (Tryd.prog.cellsOf 9) [c1]) = ys[1]? := hg 1 _ rfl
  have l3 : ys.length = 2 := hlen2
  rw [List.getElem?_eq_getElem (by omega)] at g0 g1
  rw [intCells] at g0
  rw [show Tryd.prog.cellsOf 9 = 1 by kernel_rfl] at g1
  simp only [List.take_succ_cons, List.take_zero] at g0 g1
  obtain ⟨mx, hr0, _, _⟩ := DataW.trod_int Tryd.underlying3 g0
  obtain ⟨D, hr1, _, hD⟩ := DataW.trod_string Tryd.underlying9 g1
  simp at hr0 hr1
  subst hr0 hr1
  exact ⟨mx, D, rfl, hD⟩

set_option maxRecDepth 2000000 in
set_option maxHeartbeats 1600000 in
theorem liftText_walk (M : Int) (D : ByteArray) (a1 a2 a3 : Int) (wb : D.size ≤ maxLen) (_w1 : (Lit.int .i64 a1).wf = true) (_w2 : (Lit.int .i64 a2).wf = true) (_w3 : (Lit.int .i64 a3).wf = true) (w : World) (hT : UTabs w) :
    Calls Tryd.prog 5 #[.agg #[.int .i64 M, .string D], .int .i64 a1, .int .i64 a2, .int .i64 a3] w fun e w' => e = .returned (.bool true) ∧ Below w.heap.size w w' := by
  unfold maxLen at wb
  clear _w1 _w2 _w3
  obtain ⟨g, hgs⟩ : ∃ g, w.heap.size = g := ⟨_, rfl⟩
  by_cases h : D.size ≤ 1048576
  · have Z := szMemory_yes M D h
    obtain ⟨x, y, hV⟩ := ltV_form M D a1 a2 a3
    have HSP : Hid (∀ W, Calls Tryd.prog 14 #[.agg #[.int .i64 M, .string D], .int .i64 a1, .int .i64 a2, .int .i64 a3] W fun e w' => e = .returned (.tuple #[.string x, .int .i64 y]) ∧ Below W.heap.size W w') := fun W => by rw [← hV]; exact specLiftText M D a1 a2 a3 h W
    have HIM : Hid (∀ W, Below w.heap.size w W → Calls Tryd.prog 16 #[.agg #[.int .i64 M, .string D], .int .i64 a1, .int .i64 a2, .int .i64 a3] W fun e w' => e = .returned (.tuple #[.string x, .int .i64 y]) ∧ Below W.heap.size W w') := fun W hW => by rw [← hV]; exact implLiftText M D a1 a2 a3 h W (Utf8Tabs_below hT hW)
    have T := toMemory M D
    have k : ¬ 1048576 - (D.size : Int) < 0 := by omega
    generalize (1048576 - (D.size : Int)) = n at *
    clear h wb hV hT
    go_enter Tryd.func5, Tryd.ntmps5
    go_wp2_with fail
    refine (Z _).mono ?_
    rintro e w1 ⟨rfl, B1⟩
    have h1 := B1.size
    simp at h1
    have q0 : w1.cell? ⟨g, 0, none⟩ = some (.int .i64 M) := keepCell B1 (by simp; omega) (by rw [← hgs]; simp)
    have q1 : w1.cell? ⟨g, 1, none⟩ = some (.string D) := keepCell B1 (by simp; omega) (by rw [← hgs]; simp)
    have hB : Below w.heap.size w w1 := by ((repeat (first | refine bel_alloc ?_ _ | refine bel_dN ?_ _ | refine Below.drew ?_ | refine Below.setCell ?_ (by first | (simp; done) | (simp; omega)) _)); refine bel_step ?_ B1; (repeat (first | refine bel_alloc ?_ _ | refine bel_dN ?_ _ | refine Below.drew ?_ | refine Below.setCell ?_ (by first | (simp; done) | (simp; omega)) _)); exact Below.refl _ _)
    clear Z B1
    go_wp2_with fail
    refine (T _).mono ?_
    rintro e w2 ⟨rfl, B2⟩
    have h2 := B2.size
    replace q0 := keepCell B2 (by omega) q0
    replace q1 := keepCell B2 (by omega) q1
    replace hB := bel_stepK hB B2
    clear B2
    go_wp2_with fail
    refine (HSP.out _).mono ?_
    rintro e w3 ⟨rfl, B3⟩
    have h3 := B3.size
    replace q0 := keepCell B3 (by omega) q0
    replace q1 := keepCell B3 (by omega) q1
    replace hB := bel_stepK hB B3
    clear B3 HSP
    go_wp2_with fail
    refine (T _).mono ?_
    rintro e w4 ⟨rfl, B4⟩
    replace hB := bel_stepK hB B4
    clear B4 T q0 q1
    have HI := HIM.out w4 hB
    go_wp2_with fail
    refine HI.mono ?_
    rintro e w5 ⟨rfl, B5⟩
    have hB5 : Hid (Below w.heap.size w w5) := bel_stepK hB B5
    clear B5 HI HIM hB
    go_wp2
    go_ret
    exact ⟨rfl, hB5.out⟩
  · have Z := szMemory_no M D (by omega) wb
    clear h wb
    go_enter Tryd.func5, Tryd.ntmps5
    go_wp2_with fail
    refine (Z _).mono ?_
    rintro e w1 ⟨rfl, B1⟩
    go_wp2
    go_ret
    refine ⟨rfl, ?_⟩
    ((repeat (first | refine bel_alloc ?_ _ | refine bel_dN ?_ _ | refine Below.drew ?_ | refine Below.setCell ?_ (by first | (simp; done) | (simp; omega)) _)); refine bel_step ?_ B1; (repeat (first | refine bel_alloc ?_ _ | refine bel_dN ?_ _ | refine Below.drew ?_ | refine Below.setCell ?_ (by first | (simp; done) | (simp; omega)) _)); exact Below.refl _ _)

end Go.Proofs.YtgepplddhmgifaaDoor
