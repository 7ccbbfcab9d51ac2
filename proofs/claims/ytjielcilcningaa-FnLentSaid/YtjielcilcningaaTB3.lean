/-
  A handle that may be in a table: both sides. (Made by a generator.)
-/
import Derived.Test.YtjielcilcningaaTB2
import Derived.Test.YtjielcilcningaaIn
import Derived.Laws.StructEq
namespace Go.Proofs.Ytjielcilcningaa
open Go.ChangeShapes Go.WideShapes Go.ChangeAt Go.RowKit

set_option maxRecDepth 1000000 in
set_option maxHeartbeats 400000 in
theorem within_eq (n most : Int) (r : Bool) (h : Hid ((decide (0 ≤ n) && decide (n ≤ most)) = r)) (w : World) : Calls Try.prog 40 #[.int .i64 n, .int .i64 most] w fun e w' => e = .returned (.bool r) ∧ w' = w := by
  by_cases h1 : 0 ≤ n
  · have e1 : decide (n ≤ most) = r := by rw [← h.out]; simp [h1]
    clear h
    go_enter Try.func40, Try.ntmps40
    go_wp2
    go_ret
    exact ⟨rfl, rfl⟩
  · have e1 : r = false := by rw [← h.out]; simp [h1]
    subst e1
    clear h
    go_enter Try.func40, Try.ntmps40
    go_wp2
    go_ret
    exact ⟨rfl, rfl⟩

theorem neqH (u : Bool) (r p : Int) (o : Bool) (l s : Int) (w : World) : (binOp .neq 28 (.agg #[.bool u, .int .i64 r, .int .i64 p, .bool o, .int .i64 l, .int .i64 s]) (.agg #[.bool false, .int .i64 0, .int .i64 0, .bool false, .int .i64 0, .int .i64 0])).run Try.prog w = .ok (.bool (!isZ ⟨u, r, p, o, l, s⟩)) w := by
  rw [run_neq_struct, run_equalIn_agg w 9999 28 _ _ (by kernel_rfl) (by kernel_rfl)]
  simp only [Program.fieldsOf, Try.underlying28]
  simp [Op.eqFields, go_sem, Try.underlying3, Try.underlying4, isZ]
  cases u <;> cases o <;> by_cases h1 : r = 0 <;> by_cases h2 : p = 0 <;> by_cases h3 : l = 0 <;> by_cases h4 : s = 0 <;> simp [h1, h2, h3, h4]

set_option maxRecDepth 1000000 in
set_option maxHeartbeats 1600000 in
theorem specHd (h : Hd) (w : World) :
    Calls Try.prog 27 #[hdV h] w fun e w' => e = .returned (.bool (okH h)) ∧ Below w.heap.size w w' := by
  obtain ⟨u, r, p, o, l, s⟩ := h
  unfold hdV
  obtain ⟨R, hR⟩ : ∃ R, okH ⟨u, r, p, o, l, s⟩ = R := ⟨_, rfl⟩
  have HR : Hid (okH ⟨u, r, p, o, l, s⟩ = R) := hR
  rw [hR]
  clear hR
  obtain ⟨b1, hb1⟩ : ∃ b, Hid ((decide (0 ≤ r) && decide (r ≤ 9)) = b) := ⟨_, rfl⟩
  have I1 := in_eq r 0 9 b1 hb1
  obtain ⟨b2, hb2⟩ : ∃ b, Hid ((decide (0 ≤ p) && decide (p ≤ 1000000)) = b) := ⟨_, rfl⟩
  have I2 := in_eq p 0 1000000 b2 hb2
  obtain ⟨b3, hb3⟩ : ∃ b, Hid ((decide (0 ≤ l) && decide (l ≤ 1000)) = b) := ⟨_, rfl⟩
  have I3 := in_eq l 0 1000 b3 hb3
  obtain ⟨b4, hb4⟩ : ∃ b, Hid ((decide (0 ≤ s) && decide (s ≤ 1000)) = b) := ⟨_, rfl⟩
  have I4 := in_eq s 0 1000 b4 hb4
  cases u
  · clear I1 I2 I3 I4
    have hRR : R = false := by rw [← HR.out]; simp [okH]
    clear HR hb1 hb2 hb3 hb4
    go_enter Try.func27, Try.ntmps27
    go_wp2
    go_ret
    exact ⟨by rw [hRR]; rfl, by (repeat (first | refine Below.alloc ?_ (by first | (simp; done) | (simp; omega)) _ | refine Below.setCell ?_ (by first | (simp; done) | (simp; omega)) _ | refine bel_dN ?_ _ | refine Below.drew ?_ | exact Below.refl _ _))⟩
  · cases b1
    · clear I2 I3 I4
      have hRR : R = false := by rw [← HR.out]; have q := hb1.out; simp only [okH, inB]; rw [q]; simp
      clear HR hb1 hb2 hb3 hb4
      go_enter Try.func27, Try.ntmps27
      go_wp2_with fail
      refine (I1 _).mono ?_
      rintro e w' ⟨rfl, hw⟩
      obtain rfl := hw.symm
      clear I1 hw
      go_wp2
      go_ret
      exact ⟨by rw [hRR]; rfl, by (repeat (first | refine Below.alloc ?_ (by first | (simp; done) | (simp; omega)) _ | refine Below.setCell ?_ (by first | (simp; done) | (simp; omega)) _ | refine bel_dN ?_ _ | refine Below.drew ?_ | exact Below.refl _ _))⟩
    · cases b2
      · clear I3 I4
        have hRR : R = false := by rw [← HR.out]; have q := hb2.out; simp only [okH, inB]; rw [q]; simp
        clear HR hb1 hb2 hb3 hb4
        go_enter Try.func27, Try.ntmps27
        go_wp2_with fail
        refine (I1 _).mono ?_
        rintro e w' ⟨rfl, hw⟩
        obtain rfl := hw.symm
        clear I1 hw
        go_wp2_with fail
        refine (I2 _).mono ?_
        rintro e w' ⟨rfl, hw⟩
        obtain rfl := hw.symm
        clear I2 hw
        go_wp2
        go_ret
        exact ⟨by rw [hRR]; rfl, by (repeat (first | refine Below.alloc ?_ (by first | (simp; done) | (simp; omega)) _ | refine Below.setCell ?_ (by first | (simp; done) | (simp; omega)) _ | refine bel_dN ?_ _ | refine Below.drew ?_ | exact Below.refl _ _))⟩
      · cases b3
        · clear I4
          have hRR : R = false := by rw [← HR.out]; have q := hb3.out; simp only [okH, inB]; rw [q]; simp
          clear HR hb1 hb2 hb3 hb4
          go_enter Try.func27, Try.ntmps27
          go_wp2_with fail
          refine (I1 _).mono ?_
          rintro e w' ⟨rfl, hw⟩
          obtain rfl := hw.symm
          clear I1 hw
          go_wp2_with fail
          refine (I2 _).mono ?_
          rintro e w' ⟨rfl, hw⟩
          obtain rfl := hw.symm
          clear I2 hw
          go_wp2_with fail
          refine (I3 _).mono ?_
          rintro e w' ⟨rfl, hw⟩
          obtain rfl := hw.symm
          clear I3 hw
          go_wp2
          go_ret
          exact ⟨by rw [hRR]; rfl, by (repeat (first | refine Below.alloc ?_ (by first | (simp; done) | (simp; omega)) _ | refine Below.setCell ?_ (by first | (simp; done) | (simp; omega)) _ | refine bel_dN ?_ _ | refine Below.drew ?_ | exact Below.refl _ _))⟩
        · cases b4
          · skip
            have hRR : R = false := by rw [← HR.out]; have q := hb4.out; simp only [okH, inB]; rw [q]; simp
            clear HR hb1 hb2 hb3 hb4
            go_enter Try.func27, Try.ntmps27
            go_wp2_with fail
            refine (I1 _).mono ?_
            rintro e w' ⟨rfl, hw⟩
            obtain rfl := hw.symm
            clear I1 hw
            go_wp2_with fail
            refine (I2 _).mono ?_
            rintro e w' ⟨rfl, hw⟩
            obtain rfl := hw.symm
            clear I2 hw
            go_wp2_with fail
            refine (I3 _).mono ?_
            rintro e w' ⟨rfl, hw⟩
            obtain rfl := hw.symm
            clear I3 hw
            go_wp2_with fail
            refine (I4 _).mono ?_
            rintro e w' ⟨rfl, hw⟩
            obtain rfl := hw.symm
            clear I4 hw
            go_wp2
            go_ret
            exact ⟨by rw [hRR]; rfl, by (repeat (first | refine Below.alloc ?_ (by first | (simp; done) | (simp; omega)) _ | refine Below.setCell ?_ (by first | (simp; done) | (simp; omega)) _ | refine bel_dN ?_ _ | refine Below.drew ?_ | exact Below.refl _ _))⟩
          · have q5 : (o == (s == 0)) = R := by rw [← HR.out]; have q1 := hb1.out; have q2 := hb2.out; have q3 := hb3.out; have q4 := hb4.out; simp only [okH, inB]; rw [q1, q2, q3, q4]; simp
            obtain ⟨t, ht⟩ : ∃ t, (s == 0) = t := ⟨_, rfl⟩
            rw [ht] at q5
            clear HR hb1 hb2 hb3 hb4
            go_enter Try.func27, Try.ntmps27
            go_wp2_with fail
            refine (I1 _).mono ?_
            rintro e w' ⟨rfl, hw⟩
            obtain rfl := hw.symm
            clear I1 hw
            go_wp2_with fail
            refine (I2 _).mono ?_
            rintro e w' ⟨rfl, hw⟩
            obtain rfl := hw.symm
            clear I2 hw
            go_wp2_with fail
            refine (I3 _).mono ?_
            rintro e w' ⟨rfl, hw⟩
            obtain rfl := hw.symm
            clear I3 hw
            go_wp2_with fail
            refine (I4 _).mono ?_
            rintro e w' ⟨rfl, hw⟩
            obtain rfl := hw.symm
            clear I4 hw
            go_wp2
            go_ret
            exact ⟨rfl, by (repeat (first | refine Below.alloc ?_ (by first | (simp; done) | (simp; omega)) _ | refine Below.setCell ?_ (by first | (simp; done) | (simp; omega)) _ | refine bel_dN ?_ _ | refine Below.drew ?_ | exact Below.refl _ _))⟩

set_option maxRecDepth 1000000 in
set_option maxHeartbeats 1600000 in
theorem implHd (h : Hd) (w : World) :
    Calls Try.prog 21 #[hdV h] w fun e w' => e = .returned (.bool (okH h)) ∧ Below w.heap.size w w' := by
  obtain ⟨u, r, p, o, l, s⟩ := h
  unfold hdV
  obtain ⟨R, hR⟩ : ∃ R, okH ⟨u, r, p, o, l, s⟩ = R := ⟨_, rfl⟩
  have HR : Hid (okH ⟨u, r, p, o, l, s⟩ = R) := hR
  rw [hR]
  clear hR
  obtain ⟨b1, hb1⟩ : ∃ b, Hid ((decide (0 ≤ r) && decide (r ≤ 9)) = b) := ⟨_, rfl⟩
  have I1 := within_eq r 9 b1 hb1
  obtain ⟨b2, hb2⟩ : ∃ b, Hid ((decide (0 ≤ p) && decide (p ≤ 1000000)) = b) := ⟨_, rfl⟩
  have I2 := within_eq p 1000000 b2 hb2
  obtain ⟨b3, hb3⟩ : ∃ b, Hid ((decide (0 ≤ l) && decide (l ≤ 1000)) = b) := ⟨_, rfl⟩
  have I3 := within_eq l 1000 b3 hb3
  obtain ⟨b4, hb4⟩ : ∃ b, Hid ((decide (0 ≤ s) && decide (s ≤ 1000)) = b) := ⟨_, rfl⟩
  have I4 := within_eq s 1000 b4 hb4
  cases u
  · clear I1 I2 I3 I4
    have hRR : R = false := by rw [← HR.out]; simp [okH]
    clear HR hb1 hb2 hb3 hb4
    go_enter Try.func21, Try.ntmps21
    go_wp2
    go_ret
    exact ⟨by rw [hRR]; rfl, by (repeat (first | refine Below.alloc ?_ (by first | (simp; done) | (simp; omega)) _ | refine Below.setCell ?_ (by first | (simp; done) | (simp; omega)) _ | refine bel_dN ?_ _ | refine Below.drew ?_ | exact Below.refl _ _))⟩
  · cases b1
    · clear I2 I3 I4
      have hRR : R = false := by rw [← HR.out]; have q := hb1.out; simp only [okH, inB]; rw [q]; simp
      clear HR hb1 hb2 hb3 hb4
      go_enter Try.func21, Try.ntmps21
      go_wp2_with fail
      refine (I1 _).mono ?_
      rintro e w' ⟨rfl, hw⟩
      obtain rfl := hw.symm
      clear I1 hw
      go_wp2
      go_ret
      exact ⟨by rw [hRR]; rfl, by (repeat (first | refine Below.alloc ?_ (by first | (simp; done) | (simp; omega)) _ | refine Below.setCell ?_ (by first | (simp; done) | (simp; omega)) _ | refine bel_dN ?_ _ | refine Below.drew ?_ | exact Below.refl _ _))⟩
    · cases b2
      · clear I3 I4
        have hRR : R = false := by rw [← HR.out]; have q := hb2.out; simp only [okH, inB]; rw [q]; simp
        clear HR hb1 hb2 hb3 hb4
        go_enter Try.func21, Try.ntmps21
        go_wp2_with fail
        refine (I1 _).mono ?_
        rintro e w' ⟨rfl, hw⟩
        obtain rfl := hw.symm
        clear I1 hw
        go_wp2_with fail
        refine (I2 _).mono ?_
        rintro e w' ⟨rfl, hw⟩
        obtain rfl := hw.symm
        clear I2 hw
        go_wp2
        go_ret
        exact ⟨by rw [hRR]; rfl, by (repeat (first | refine Below.alloc ?_ (by first | (simp; done) | (simp; omega)) _ | refine Below.setCell ?_ (by first | (simp; done) | (simp; omega)) _ | refine bel_dN ?_ _ | refine Below.drew ?_ | exact Below.refl _ _))⟩
      · cases b3
        · clear I4
          have hRR : R = false := by rw [← HR.out]; have q := hb3.out; simp only [okH, inB]; rw [q]; simp
          clear HR hb1 hb2 hb3 hb4
          go_enter Try.func21, Try.ntmps21
          go_wp2_with fail
          refine (I1 _).mono ?_
          rintro e w' ⟨rfl, hw⟩
          obtain rfl := hw.symm
          clear I1 hw
          go_wp2_with fail
          refine (I2 _).mono ?_
          rintro e w' ⟨rfl, hw⟩
          obtain rfl := hw.symm
          clear I2 hw
          go_wp2_with fail
          refine (I3 _).mono ?_
          rintro e w' ⟨rfl, hw⟩
          obtain rfl := hw.symm
          clear I3 hw
          go_wp2
          go_ret
          exact ⟨by rw [hRR]; rfl, by (repeat (first | refine Below.alloc ?_ (by first | (simp; done) | (simp; omega)) _ | refine Below.setCell ?_ (by first | (simp; done) | (simp; omega)) _ | refine bel_dN ?_ _ | refine Below.drew ?_ | exact Below.refl _ _))⟩
        · cases b4
          · skip
            have hRR : R = false := by rw [← HR.out]; have q := hb4.out; simp only [okH, inB]; rw [q]; simp
            clear HR hb1 hb2 hb3 hb4
            go_enter Try.func21, Try.ntmps21
            go_wp2_with fail
            refine (I1 _).mono ?_
            rintro e w' ⟨rfl, hw⟩
            obtain rfl := hw.symm
            clear I1 hw
            go_wp2_with fail
            refine (I2 _).mono ?_
            rintro e w' ⟨rfl, hw⟩
            obtain rfl := hw.symm
            clear I2 hw
            go_wp2_with fail
            refine (I3 _).mono ?_
            rintro e w' ⟨rfl, hw⟩
            obtain rfl := hw.symm
            clear I3 hw
            go_wp2_with fail
            refine (I4 _).mono ?_
            rintro e w' ⟨rfl, hw⟩
            obtain rfl := hw.symm
            clear I4 hw
            go_wp2
            go_ret
            exact ⟨by rw [hRR]; rfl, by (repeat (first | refine Below.alloc ?_ (by first | (simp; done) | (simp; omega)) _ | refine Below.setCell ?_ (by first | (simp; done) | (simp; omega)) _ | refine bel_dN ?_ _ | refine Below.drew ?_ | exact Below.refl _ _))⟩
          · have q5 : (o == (s == 0)) = R := by rw [← HR.out]; have q1 := hb1.out; have q2 := hb2.out; have q3 := hb3.out; have q4 := hb4.out; simp only [okH, inB]; rw [q1, q2, q3, q4]; simp
            obtain ⟨t, ht⟩ : ∃ t, (s == 0) = t := ⟨_, rfl⟩
            rw [ht] at q5
            clear HR hb1 hb2 hb3 hb4
            go_enter Try.func21, Try.ntmps21
            go_wp2_with fail
            refine (I1 _).mono ?_
            rintro e w' ⟨rfl, hw⟩
            obtain rfl := hw.symm
            clear I1 hw
            go_wp2_with fail
            refine (I2 _).mono ?_
            rintro e w' ⟨rfl, hw⟩
            obtain rfl := hw.symm
            clear I2 hw
            go_wp2_with fail
            refine (I3 _).mono ?_
            rintro e w' ⟨rfl, hw⟩
            obtain rfl := hw.symm
            clear I3 hw
            go_wp2_with fail
            refine (I4 _).mono ?_
            rintro e w' ⟨rfl, hw⟩
            obtain rfl := hw.symm
            clear I4 hw
            go_wp2
            go_ret
            exact ⟨rfl, by (repeat (first | refine Below.alloc ?_ (by first | (simp; done) | (simp; omega)) _ | refine Below.setCell ?_ (by first | (simp; done) | (simp; omega)) _ | refine bel_dN ?_ _ | refine Below.drew ?_ | exact Below.refl _ _))⟩

end Go.Proofs.Ytjielcilcningaa
