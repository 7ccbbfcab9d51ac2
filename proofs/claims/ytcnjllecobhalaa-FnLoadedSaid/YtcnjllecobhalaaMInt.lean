/-
  Numbers loaded and stored: both sides. (Made by a generator: one part for each number of bytes.)
-/
import Derived.Test.YtcnjllecobhalaaMNum
import Derived.Test.YtcnjllecobhalaaMSt
namespace Go.Proofs.Ytcnjllecobhalaa
open Go.ChangeShapes Go.WideShapes Go.ChangeAt Go.RowKit Go.PlainAid

theorem numberCode_no (M : Int) (D : ByteArray) (a n : Int) (h1 : n ≠ 1) (h2 : n ≠ 2) (h4 : n ≠ 4) (h8 : n ≠ 8) (w : World) :
    Calls Try.prog 80 #[.agg #[.int .i64 M, .string D], .int .i64 a, .int .i64 n] w fun e w' => e = .returned (.int .i64 1) ∧ Below w.heap.size w w' := by
  have k1 : (n == 1) = false := by simp [h1]
  have k2 : (n == 2) = false := by simp [h2]
  have k4 : (n == 4) = false := by simp [h4]
  have k8 : (n == 8) = false := by simp [h8]
  clear h1 h2 h4 h8
  go_enter Try.func80, Try.ntmps80
  go_wp2
  go_ret
  refine ⟨rfl, ?_⟩
  (repeat (first | refine Below.alloc ?_ (by first | (simp; done) | (simp; omega)) _ | refine Below.setCell ?_ (by first | (simp; done) | (simp; omega)) _ | refine bel_dN ?_ _ | refine Below.drew ?_ | exact Below.refl _ _))

theorem l5Size_no (n : Int) (h1 : n ≠ 1) (h2 : n ≠ 2) (h4 : n ≠ 4) (h8 : n ≠ 8) (w : World) :
    Calls Try.prog 82 #[.int .i64 n] w fun e w' => e = .returned (.bool false) ∧ w' = w := by
  have k1 : (n == 1) = false := by simp [h1]
  have k2 : (n == 2) = false := by simp [h2]
  have k4 : (n == 4) = false := by simp [h4]
  have k8 : (n == 8) = false := by simp [h8]
  clear h1 h2 h4 h8
  go_enter Try.func82, Try.ntmps82
  go_wp2
  go_ret
  exact ⟨rfl, rfl⟩

theorem or_top (x T : Nat) (hT : T = 256 ∨ T = 65536 ∨ T = 4294967296) (h : x < T) : bits .or .u64 (x : Int) ((18446744073709551616 - T : Nat) : Int) = ((x + (18446744073709551616 - T) : Nat) : Int) := by
  rcases hT with rfl | rfl | rfl
  · rw [or_nat _ _ (by omega) (by omega), Nat.or_comm]
    have e := (Nat.two_pow_add_eq_or_of_lt (i := 8) (b := x) (by omega) 72057594037927935).symm
    rw [show 18446744073709551616 - 256 = 2 ^ 8 * 72057594037927935 by rfl, e]
    omega
  · rw [or_nat _ _ (by omega) (by omega), Nat.or_comm]
    have e := (Nat.two_pow_add_eq_or_of_lt (i := 16) (b := x) (by omega) 281474976710655).symm
    rw [show 18446744073709551616 - 65536 = 2 ^ 16 * 281474976710655 by rfl, e]
    omega
  · rw [or_nat _ _ (by omega) (by omega), Nat.or_comm]
    have e := (Nat.two_pow_add_eq_or_of_lt (i := 32) (b := x) (by omega) 4294967295).symm
    rw [show 18446744073709551616 - 4294967296 = 2 ^ 32 * 4294967295 by rfl, e]
    omega

/-- A number of n bytes told with its sign, in 64 bits. -/
def sgn (n : Nat) (x : Int) : Int := if n = 8 then x else if 2 ^ (8 * n - 1) ≤ x then x + 18446744073709551616 - 2 ^ (8 * n) else x

theorem numberCode1 (M : Int) (D : ByteArray) (h : D.size ≤ 1048576) (a : Int) (ha : a ≤ 9223372036854775807) (w : World) :
    Calls Try.prog 80 #[.agg #[.int .i64 M, .string D], .int .i64 a, .int .i64 1] w fun e w' => e = .returned (.int .i64 (codeOf (good M D) D.size [(a, 1)])) ∧ Below w.heap.size w w' := by
  have SP := fun b w h1 h2 h3 => spans1 M D h b a 1 w h1 h2 h3 ha
  obtain ⟨g, hgs⟩ : ∃ g, w.heap.size = g := ⟨_, rfl⟩
  generalize codeOf (good M D) D.size [(a, 1)] = c at *
  go_enter Try.func80, Try.ntmps80
  go_wp2_with fail
  refine (SP (g + 1) _ (by simp; omega) (newCell (by simp; omega) rfl) (newCell (by simp; omega) rfl)).mono ?_
  rintro e w1 ⟨rfl, B1⟩
  go_wp2
  go_ret
  refine ⟨rfl, ?_⟩
  ((repeat (first | refine bel_alloc ?_ _ | refine bel_dN ?_ _ | refine Below.drew ?_ | refine Below.setCell ?_ (by first | (simp; done) | (simp; omega)) _)); refine bel_step ?_ B1; (repeat (first | refine bel_alloc ?_ _ | refine bel_dN ?_ _ | refine Below.drew ?_ | refine Below.setCell ?_ (by first | (simp; done) | (simp; omega)) _)); exact Below.refl _ _)

theorem l5Size1 (w : World) : Calls Try.prog 82 #[.int .i64 1] w fun e w' => e = .returned (.bool true) ∧ w' = w := by
  go_enter Try.func82, Try.ntmps82
  go_wp2
  go_ret
  exact ⟨rfl, rfl⟩

theorem sgned1 (x : Nat) (h : x < 256) (w : World) :
    Calls Try.prog 85 #[.int .i64 8, .int .u64 (x : Int)] w fun e w' => e = .returned (.int .i64 (if 128 ≤ x then (x : Int) - 256 else x)) ∧ w' = w := by
  obtain ⟨z, hz⟩ : ∃ z : Int, (if 128 ≤ x then (x : Int) - 256 else x) = z := ⟨_, rfl⟩
  have HZ : Hid ((if 128 ≤ x then (x : Int) - 256 else x) = z) := hz
  rw [hz]
  clear hz
  go_enter Try.func85, Try.ntmps85
  go_wp2
  go_ret
  refine ⟨congrArg (fun z => Ending.returned (.int .i64 z)) ?_, rfl⟩
  rw [← HZ.out]
  try unfold wrap64
  try rw [IntKind.wrap_u64]
  split <;> omega

theorem loadIntI1 (M : Int) (D : ByteArray) (h : D.size ≤ 1048576) (a : Nat) (hg : good M D = true) (hf : a + 1 ≤ D.size) (sg : Bool) (w : World) :
    Calls Try.prog 37 #[.agg #[.int .i64 M, .string D], .int .i64 (a : Int), .int .i64 1, .bool sg] w fun e w' => e = .returned (.tuple #[.int .u64 (if sg = true then sgn 1 (leN (D.extract a (a + 1)) 1 : Int) else (leN (D.extract a (a + 1)) 1 : Int)), .int .i64 0]) ∧ Below w.heap.size w w' := by
  have NC := numberCode1 M D h (a : Int) (by omega)
  rw [hg, code1_in _ _ _ (by omega) (by omega) (by omega)] at NC
  have hsl := slice_mem (P := Try.prog) 9 Try.underlying9 D a 1 hf
  have hXs : (D.extract a (a + 1)).size = 1 := by simp only [ByteArray.size_extract]; omega
  have NO := numberOf (D.extract a (a + 1)) (by omega)
  rw [hXs] at NO
  have hx := leN_lt (D.extract a (a + 1)) 1
  have hx' : leN (D.extract a (a + 1)) 1 < 256 := hx
  have v : wrap64 ((a : Int) + ((1 : Nat) : Int)) = (a : Int) + ((1 : Nat) : Int) := by unfold wrap64; omega
  generalize D.extract a (a + 1) = X at *
  generalize leN X 1 = x at *
  have SG := sgned1 x hx'
  have hu : IntKind.u64.wrap (if 128 ≤ x then (x : Int) - 256 else x) = sgn 1 x := by
    rw [IntKind.wrap_u64]; unfold sgn; simp; split <;> (try split) <;> omega
  generalize (if 128 ≤ x then (x : Int) - 256 else x) = z at *
  generalize sgn 1 (x : Int) = q at *
  obtain ⟨g, hgs⟩ : ∃ g, w.heap.size = g := ⟨_, rfl⟩
  simp only [Int.cast_ofNat_Int] at hsl v
  clear hf hg h hx hx' hXs
  cases sg
  · go_enter Try.func37, Try.ntmps37
    go_wp2_with fail
    refine (NC _).mono ?_
    rintro e w1 ⟨rfl, B1⟩
    have q1 : w1.cell? ⟨g, 1, none⟩ = some (.string D) := keepCell B1 (by simp; omega) (by rw [← hgs]; simp)
    have hB : Hid (Below w.heap.size w w1) := by unfold Hid; ((repeat (first | refine bel_alloc ?_ _ | refine bel_dN ?_ _ | refine Below.drew ?_ | refine Below.setCell ?_ (by first | (simp; done) | (simp; omega)) _)); refine bel_step ?_ B1; (repeat (first | refine bel_alloc ?_ _ | refine bel_dN ?_ _ | refine Below.drew ?_ | refine Below.setCell ?_ (by first | (simp; done) | (simp; omega)) _)); exact Below.refl _ _)
    clear B1 NC
    go_wp2_with fail
    refine (NO _).mono ?_
    rintro e w2 ⟨rfl, hw⟩
    obtain rfl := hw.symm
    clear NO q1
    go_wp2
    go_ret2
    exact ⟨rfl, by first | exact hB.out | (rw [← hgs]; exact hB.out)⟩
  · go_enter Try.func37, Try.ntmps37
    go_wp2_with fail
    refine (NC _).mono ?_
    rintro e w1 ⟨rfl, B1⟩
    have q1 : w1.cell? ⟨g, 1, none⟩ = some (.string D) := keepCell B1 (by simp; omega) (by rw [← hgs]; simp)
    have hB : Hid (Below w.heap.size w w1) := by unfold Hid; ((repeat (first | refine bel_alloc ?_ _ | refine bel_dN ?_ _ | refine Below.drew ?_ | refine Below.setCell ?_ (by first | (simp; done) | (simp; omega)) _)); refine bel_step ?_ B1; (repeat (first | refine bel_alloc ?_ _ | refine bel_dN ?_ _ | refine Below.drew ?_ | refine Below.setCell ?_ (by first | (simp; done) | (simp; omega)) _)); exact Below.refl _ _)
    clear B1 NC
    go_wp2_with fail
    refine (NO _).mono ?_
    rintro e w2 ⟨rfl, hw⟩
    obtain rfl := hw.symm
    clear NO q1
    go_wp2_with fail
    refine (SG _).mono ?_
    rintro e w3 ⟨rfl, hw⟩
    obtain rfl := hw.symm
    clear SG
    go_wp2
    go_ret2
    exact ⟨rfl, by first | exact hB.out | (rw [← hgs]; exact hB.out)⟩

theorem numberCode2 (M : Int) (D : ByteArray) (h : D.size ≤ 1048576) (a : Int) (ha : a ≤ 9223372036854775807) (w : World) :
    Calls Try.prog 80 #[.agg #[.int .i64 M, .string D], .int .i64 a, .int .i64 2] w fun e w' => e = .returned (.int .i64 (codeOf (good M D) D.size [(a, 2)])) ∧ Below w.heap.size w w' := by
  have SP := fun b w h1 h2 h3 => spans1 M D h b a 2 w h1 h2 h3 ha
  obtain ⟨g, hgs⟩ : ∃ g, w.heap.size = g := ⟨_, rfl⟩
  generalize codeOf (good M D) D.size [(a, 2)] = c at *
  go_enter Try.func80, Try.ntmps80
  go_wp2_with fail
  refine (SP (g + 1) _ (by simp; omega) (newCell (by simp; omega) rfl) (newCell (by simp; omega) rfl)).mono ?_
  rintro e w1 ⟨rfl, B1⟩
  go_wp2
  go_ret
  refine ⟨rfl, ?_⟩
  ((repeat (first | refine bel_alloc ?_ _ | refine bel_dN ?_ _ | refine Below.drew ?_ | refine Below.setCell ?_ (by first | (simp; done) | (simp; omega)) _)); refine bel_step ?_ B1; (repeat (first | refine bel_alloc ?_ _ | refine bel_dN ?_ _ | refine Below.drew ?_ | refine Below.setCell ?_ (by first | (simp; done) | (simp; omega)) _)); exact Below.refl _ _)

theorem l5Size2 (w : World) : Calls Try.prog 82 #[.int .i64 2] w fun e w' => e = .returned (.bool true) ∧ w' = w := by
  go_enter Try.func82, Try.ntmps82
  go_wp2
  go_ret
  exact ⟨rfl, rfl⟩

theorem sgned2 (x : Nat) (h : x < 65536) (w : World) :
    Calls Try.prog 85 #[.int .i64 16, .int .u64 (x : Int)] w fun e w' => e = .returned (.int .i64 (if 32768 ≤ x then (x : Int) - 65536 else x)) ∧ w' = w := by
  obtain ⟨z, hz⟩ : ∃ z : Int, (if 32768 ≤ x then (x : Int) - 65536 else x) = z := ⟨_, rfl⟩
  have HZ : Hid ((if 32768 ≤ x then (x : Int) - 65536 else x) = z) := hz
  rw [hz]
  clear hz
  go_enter Try.func85, Try.ntmps85
  go_wp2
  go_ret
  refine ⟨congrArg (fun z => Ending.returned (.int .i64 z)) ?_, rfl⟩
  rw [← HZ.out]
  try unfold wrap64
  try rw [IntKind.wrap_u64]
  split <;> omega

theorem loadIntI2 (M : Int) (D : ByteArray) (h : D.size ≤ 1048576) (a : Nat) (hg : good M D = true) (hf : a + 2 ≤ D.size) (sg : Bool) (w : World) :
    Calls Try.prog 37 #[.agg #[.int .i64 M, .string D], .int .i64 (a : Int), .int .i64 2, .bool sg] w fun e w' => e = .returned (.tuple #[.int .u64 (if sg = true then sgn 2 (leN (D.extract a (a + 2)) 2 : Int) else (leN (D.extract a (a + 2)) 2 : Int)), .int .i64 0]) ∧ Below w.heap.size w w' := by
  have NC := numberCode2 M D h (a : Int) (by omega)
  rw [hg, code1_in _ _ _ (by omega) (by omega) (by omega)] at NC
  have hsl := slice_mem (P := Try.prog) 9 Try.underlying9 D a 2 hf
  have hXs : (D.extract a (a + 2)).size = 2 := by simp only [ByteArray.size_extract]; omega
  have NO := numberOf (D.extract a (a + 2)) (by omega)
  rw [hXs] at NO
  have hx := leN_lt (D.extract a (a + 2)) 2
  have hx' : leN (D.extract a (a + 2)) 2 < 65536 := hx
  have v : wrap64 ((a : Int) + ((2 : Nat) : Int)) = (a : Int) + ((2 : Nat) : Int) := by unfold wrap64; omega
  generalize D.extract a (a + 2) = X at *
  generalize leN X 2 = x at *
  have SG := sgned2 x hx'
  have hu : IntKind.u64.wrap (if 32768 ≤ x then (x : Int) - 65536 else x) = sgn 2 x := by
    rw [IntKind.wrap_u64]; unfold sgn; simp; split <;> (try split) <;> omega
  generalize (if 32768 ≤ x then (x : Int) - 65536 else x) = z at *
  generalize sgn 2 (x : Int) = q at *
  obtain ⟨g, hgs⟩ : ∃ g, w.heap.size = g := ⟨_, rfl⟩
  simp only [Int.cast_ofNat_Int] at hsl v
  clear hf hg h hx hx' hXs
  cases sg
  · go_enter Try.func37, Try.ntmps37
    go_wp2_with fail
    refine (NC _).mono ?_
    rintro e w1 ⟨rfl, B1⟩
    have q1 : w1.cell? ⟨g, 1, none⟩ = some (.string D) := keepCell B1 (by simp; omega) (by rw [← hgs]; simp)
    have hB : Hid (Below w.heap.size w w1) := by unfold Hid; ((repeat (first | refine bel_alloc ?_ _ | refine bel_dN ?_ _ | refine Below.drew ?_ | refine Below.setCell ?_ (by first | (simp; done) | (simp; omega)) _)); refine bel_step ?_ B1; (repeat (first | refine bel_alloc ?_ _ | refine bel_dN ?_ _ | refine Below.drew ?_ | refine Below.setCell ?_ (by first | (simp; done) | (simp; omega)) _)); exact Below.refl _ _)
    clear B1 NC
    go_wp2_with fail
    refine (NO _).mono ?_
    rintro e w2 ⟨rfl, hw⟩
    obtain rfl := hw.symm
    clear NO q1
    go_wp2
    go_ret2
    exact ⟨rfl, by first | exact hB.out | (rw [← hgs]; exact hB.out)⟩
  · go_enter Try.func37, Try.ntmps37
    go_wp2_with fail
    refine (NC _).mono ?_
    rintro e w1 ⟨rfl, B1⟩
    have q1 : w1.cell? ⟨g, 1, none⟩ = some (.string D) := keepCell B1 (by simp; omega) (by rw [← hgs]; simp)
    have hB : Hid (Below w.heap.size w w1) := by unfold Hid; ((repeat (first | refine bel_alloc ?_ _ | refine bel_dN ?_ _ | refine Below.drew ?_ | refine Below.setCell ?_ (by first | (simp; done) | (simp; omega)) _)); refine bel_step ?_ B1; (repeat (first | refine bel_alloc ?_ _ | refine bel_dN ?_ _ | refine Below.drew ?_ | refine Below.setCell ?_ (by first | (simp; done) | (simp; omega)) _)); exact Below.refl _ _)
    clear B1 NC
    go_wp2_with fail
    refine (NO _).mono ?_
    rintro e w2 ⟨rfl, hw⟩
    obtain rfl := hw.symm
    clear NO q1
    go_wp2_with fail
    refine (SG _).mono ?_
    rintro e w3 ⟨rfl, hw⟩
    obtain rfl := hw.symm
    clear SG
    go_wp2
    go_ret2
    exact ⟨rfl, by first | exact hB.out | (rw [← hgs]; exact hB.out)⟩

theorem numberCode4 (M : Int) (D : ByteArray) (h : D.size ≤ 1048576) (a : Int) (ha : a ≤ 9223372036854775807) (w : World) :
    Calls Try.prog 80 #[.agg #[.int .i64 M, .string D], .int .i64 a, .int .i64 4] w fun e w' => e = .returned (.int .i64 (codeOf (good M D) D.size [(a, 4)])) ∧ Below w.heap.size w w' := by
  have SP := fun b w h1 h2 h3 => spans1 M D h b a 4 w h1 h2 h3 ha
  obtain ⟨g, hgs⟩ : ∃ g, w.heap.size = g := ⟨_, rfl⟩
  generalize codeOf (good M D) D.size [(a, 4)] = c at *
  go_enter Try.func80, Try.ntmps80
  go_wp2_with fail
  refine (SP (g + 1) _ (by simp; omega) (newCell (by simp; omega) rfl) (newCell (by simp; omega) rfl)).mono ?_
  rintro e w1 ⟨rfl, B1⟩
  go_wp2
  go_ret
  refine ⟨rfl, ?_⟩
  ((repeat (first | refine bel_alloc ?_ _ | refine bel_dN ?_ _ | refine Below.drew ?_ | refine Below.setCell ?_ (by first | (simp; done) | (simp; omega)) _)); refine bel_step ?_ B1; (repeat (first | refine bel_alloc ?_ _ | refine bel_dN ?_ _ | refine Below.drew ?_ | refine Below.setCell ?_ (by first | (simp; done) | (simp; omega)) _)); exact Below.refl _ _)

theorem l5Size4 (w : World) : Calls Try.prog 82 #[.int .i64 4] w fun e w' => e = .returned (.bool true) ∧ w' = w := by
  go_enter Try.func82, Try.ntmps82
  go_wp2
  go_ret
  exact ⟨rfl, rfl⟩

theorem sgned4 (x : Nat) (h : x < 4294967296) (w : World) :
    Calls Try.prog 85 #[.int .i64 32, .int .u64 (x : Int)] w fun e w' => e = .returned (.int .i64 (if 2147483648 ≤ x then (x : Int) - 4294967296 else x)) ∧ w' = w := by
  obtain ⟨z, hz⟩ : ∃ z : Int, (if 2147483648 ≤ x then (x : Int) - 4294967296 else x) = z := ⟨_, rfl⟩
  have HZ : Hid ((if 2147483648 ≤ x then (x : Int) - 4294967296 else x) = z) := hz
  rw [hz]
  clear hz
  go_enter Try.func85, Try.ntmps85
  go_wp2
  go_ret
  refine ⟨congrArg (fun z => Ending.returned (.int .i64 z)) ?_, rfl⟩
  rw [← HZ.out]
  try unfold wrap64
  try rw [IntKind.wrap_u64]
  split <;> omega

theorem loadIntI4 (M : Int) (D : ByteArray) (h : D.size ≤ 1048576) (a : Nat) (hg : good M D = true) (hf : a + 4 ≤ D.size) (sg : Bool) (w : World) :
    Calls Try.prog 37 #[.agg #[.int .i64 M, .string D], .int .i64 (a : Int), .int .i64 4, .bool sg] w fun e w' => e = .returned (.tuple #[.int .u64 (if sg = true then sgn 4 (leN (D.extract a (a + 4)) 4 : Int) else (leN (D.extract a (a + 4)) 4 : Int)), .int .i64 0]) ∧ Below w.heap.size w w' := by
  have NC := numberCode4 M D h (a : Int) (by omega)
  rw [hg, code1_in _ _ _ (by omega) (by omega) (by omega)] at NC
  have hsl := slice_mem (P := Try.prog) 9 Try.underlying9 D a 4 hf
  have hXs : (D.extract a (a + 4)).size = 4 := by simp only [ByteArray.size_extract]; omega
  have NO := numberOf (D.extract a (a + 4)) (by omega)
  rw [hXs] at NO
  have hx := leN_lt (D.extract a (a + 4)) 4
  have hx' : leN (D.extract a (a + 4)) 4 < 4294967296 := hx
  have v : wrap64 ((a : Int) + ((4 : Nat) : Int)) = (a : Int) + ((4 : Nat) : Int) := by unfold wrap64; omega
  generalize D.extract a (a + 4) = X at *
  generalize leN X 4 = x at *
  have SG := sgned4 x hx'
  have hu : IntKind.u64.wrap (if 2147483648 ≤ x then (x : Int) - 4294967296 else x) = sgn 4 x := by
    rw [IntKind.wrap_u64]; unfold sgn; simp; split <;> (try split) <;> omega
  generalize (if 2147483648 ≤ x then (x : Int) - 4294967296 else x) = z at *
  generalize sgn 4 (x : Int) = q at *
  obtain ⟨g, hgs⟩ : ∃ g, w.heap.size = g := ⟨_, rfl⟩
  simp only [Int.cast_ofNat_Int] at hsl v
  clear hf hg h hx hx' hXs
  cases sg
  · go_enter Try.func37, Try.ntmps37
    go_wp2_with fail
    refine (NC _).mono ?_
    rintro e w1 ⟨rfl, B1⟩
    have q1 : w1.cell? ⟨g, 1, none⟩ = some (.string D) := keepCell B1 (by simp; omega) (by rw [← hgs]; simp)
    have hB : Hid (Below w.heap.size w w1) := by unfold Hid; ((repeat (first | refine bel_alloc ?_ _ | refine bel_dN ?_ _ | refine Below.drew ?_ | refine Below.setCell ?_ (by first | (simp; done) | (simp; omega)) _)); refine bel_step ?_ B1; (repeat (first | refine bel_alloc ?_ _ | refine bel_dN ?_ _ | refine Below.drew ?_ | refine Below.setCell ?_ (by first | (simp; done) | (simp; omega)) _)); exact Below.refl _ _)
    clear B1 NC
    go_wp2_with fail
    refine (NO _).mono ?_
    rintro e w2 ⟨rfl, hw⟩
    obtain rfl := hw.symm
    clear NO q1
    go_wp2
    go_ret2
    exact ⟨rfl, by first | exact hB.out | (rw [← hgs]; exact hB.out)⟩
  · go_enter Try.func37, Try.ntmps37
    go_wp2_with fail
    refine (NC _).mono ?_
    rintro e w1 ⟨rfl, B1⟩
    have q1 : w1.cell? ⟨g, 1, none⟩ = some (.string D) := keepCell B1 (by simp; omega) (by rw [← hgs]; simp)
    have hB : Hid (Below w.heap.size w w1) := by unfold Hid; ((repeat (first | refine bel_alloc ?_ _ | refine bel_dN ?_ _ | refine Below.drew ?_ | refine Below.setCell ?_ (by first | (simp; done) | (simp; omega)) _)); refine bel_step ?_ B1; (repeat (first | refine bel_alloc ?_ _ | refine bel_dN ?_ _ | refine Below.drew ?_ | refine Below.setCell ?_ (by first | (simp; done) | (simp; omega)) _)); exact Below.refl _ _)
    clear B1 NC
    go_wp2_with fail
    refine (NO _).mono ?_
    rintro e w2 ⟨rfl, hw⟩
    obtain rfl := hw.symm
    clear NO q1
    go_wp2_with fail
    refine (SG _).mono ?_
    rintro e w3 ⟨rfl, hw⟩
    obtain rfl := hw.symm
    clear SG
    go_wp2
    go_ret2
    exact ⟨rfl, by first | exact hB.out | (rw [← hgs]; exact hB.out)⟩

theorem numberCode8 (M : Int) (D : ByteArray) (h : D.size ≤ 1048576) (a : Int) (ha : a ≤ 9223372036854775807) (w : World) :
    Calls Try.prog 80 #[.agg #[.int .i64 M, .string D], .int .i64 a, .int .i64 8] w fun e w' => e = .returned (.int .i64 (codeOf (good M D) D.size [(a, 8)])) ∧ Below w.heap.size w w' := by
  have SP := fun b w h1 h2 h3 => spans1 M D h b a 8 w h1 h2 h3 ha
  obtain ⟨g, hgs⟩ : ∃ g, w.heap.size = g := ⟨_, rfl⟩
  generalize codeOf (good M D) D.size [(a, 8)] = c at *
  go_enter Try.func80, Try.ntmps80
  go_wp2_with fail
  refine (SP (g + 1) _ (by simp; omega) (newCell (by simp; omega) rfl) (newCell (by simp; omega) rfl)).mono ?_
  rintro e w1 ⟨rfl, B1⟩
  go_wp2
  go_ret
  refine ⟨rfl, ?_⟩
  ((repeat (first | refine bel_alloc ?_ _ | refine bel_dN ?_ _ | refine Below.drew ?_ | refine Below.setCell ?_ (by first | (simp; done) | (simp; omega)) _)); refine bel_step ?_ B1; (repeat (first | refine bel_alloc ?_ _ | refine bel_dN ?_ _ | refine Below.drew ?_ | refine Below.setCell ?_ (by first | (simp; done) | (simp; omega)) _)); exact Below.refl _ _)

theorem l5Size8 (w : World) : Calls Try.prog 82 #[.int .i64 8] w fun e w' => e = .returned (.bool true) ∧ w' = w := by
  go_enter Try.func82, Try.ntmps82
  go_wp2
  go_ret
  exact ⟨rfl, rfl⟩

theorem sgned8 (x : Nat) (h : x < 18446744073709551616) (w : World) :
    Calls Try.prog 85 #[.int .i64 64, .int .u64 (x : Int)] w fun e w' => e = .returned (.int .i64 (if 9223372036854775808 ≤ x then (x : Int) - 18446744073709551616 else x)) ∧ w' = w := by
  obtain ⟨z, hz⟩ : ∃ z : Int, (if 9223372036854775808 ≤ x then (x : Int) - 18446744073709551616 else x) = z := ⟨_, rfl⟩
  have HZ : Hid ((if 9223372036854775808 ≤ x then (x : Int) - 18446744073709551616 else x) = z) := hz
  rw [hz]
  clear hz
  go_enter Try.func85, Try.ntmps85
  go_wp2
  go_ret
  refine ⟨congrArg (fun z => Ending.returned (.int .i64 z)) ?_, rfl⟩
  rw [← HZ.out]
  try unfold wrap64
  try rw [IntKind.wrap_u64]
  split <;> omega

theorem loadIntI8 (M : Int) (D : ByteArray) (h : D.size ≤ 1048576) (a : Nat) (hg : good M D = true) (hf : a + 8 ≤ D.size) (sg : Bool) (w : World) :
    Calls Try.prog 37 #[.agg #[.int .i64 M, .string D], .int .i64 (a : Int), .int .i64 8, .bool sg] w fun e w' => e = .returned (.tuple #[.int .u64 (if sg = true then sgn 8 (leN (D.extract a (a + 8)) 8 : Int) else (leN (D.extract a (a + 8)) 8 : Int)), .int .i64 0]) ∧ Below w.heap.size w w' := by
  have NC := numberCode8 M D h (a : Int) (by omega)
  rw [hg, code1_in _ _ _ (by omega) (by omega) (by omega)] at NC
  have hsl := slice_mem (P := Try.prog) 9 Try.underlying9 D a 8 hf
  have hXs : (D.extract a (a + 8)).size = 8 := by simp only [ByteArray.size_extract]; omega
  have NO := numberOf (D.extract a (a + 8)) (by omega)
  rw [hXs] at NO
  have hx := leN_lt (D.extract a (a + 8)) 8
  have hx' : leN (D.extract a (a + 8)) 8 < 18446744073709551616 := hx
  have v : wrap64 ((a : Int) + ((8 : Nat) : Int)) = (a : Int) + ((8 : Nat) : Int) := by unfold wrap64; omega
  generalize D.extract a (a + 8) = X at *
  generalize leN X 8 = x at *
  have SG := sgned8 x hx'
  have hu : IntKind.u64.wrap (if 9223372036854775808 ≤ x then (x : Int) - 18446744073709551616 else x) = sgn 8 x := by
    rw [IntKind.wrap_u64]; unfold sgn; simp; split <;> (try split) <;> omega
  generalize (if 9223372036854775808 ≤ x then (x : Int) - 18446744073709551616 else x) = z at *
  generalize sgn 8 (x : Int) = q at *
  obtain ⟨g, hgs⟩ : ∃ g, w.heap.size = g := ⟨_, rfl⟩
  simp only [Int.cast_ofNat_Int] at hsl v
  clear hf hg h hx hx' hXs
  cases sg
  · go_enter Try.func37, Try.ntmps37
    go_wp2_with fail
    refine (NC _).mono ?_
    rintro e w1 ⟨rfl, B1⟩
    have q1 : w1.cell? ⟨g, 1, none⟩ = some (.string D) := keepCell B1 (by simp; omega) (by rw [← hgs]; simp)
    have hB : Hid (Below w.heap.size w w1) := by unfold Hid; ((repeat (first | refine bel_alloc ?_ _ | refine bel_dN ?_ _ | refine Below.drew ?_ | refine Below.setCell ?_ (by first | (simp; done) | (simp; omega)) _)); refine bel_step ?_ B1; (repeat (first | refine bel_alloc ?_ _ | refine bel_dN ?_ _ | refine Below.drew ?_ | refine Below.setCell ?_ (by first | (simp; done) | (simp; omega)) _)); exact Below.refl _ _)
    clear B1 NC
    go_wp2_with fail
    refine (NO _).mono ?_
    rintro e w2 ⟨rfl, hw⟩
    obtain rfl := hw.symm
    clear NO q1
    go_wp2
    go_ret2
    exact ⟨rfl, by first | exact hB.out | (rw [← hgs]; exact hB.out)⟩
  · go_enter Try.func37, Try.ntmps37
    go_wp2_with fail
    refine (NC _).mono ?_
    rintro e w1 ⟨rfl, B1⟩
    have q1 : w1.cell? ⟨g, 1, none⟩ = some (.string D) := keepCell B1 (by simp; omega) (by rw [← hgs]; simp)
    have hB : Hid (Below w.heap.size w w1) := by unfold Hid; ((repeat (first | refine bel_alloc ?_ _ | refine bel_dN ?_ _ | refine Below.drew ?_ | refine Below.setCell ?_ (by first | (simp; done) | (simp; omega)) _)); refine bel_step ?_ B1; (repeat (first | refine bel_alloc ?_ _ | refine bel_dN ?_ _ | refine Below.drew ?_ | refine Below.setCell ?_ (by first | (simp; done) | (simp; omega)) _)); exact Below.refl _ _)
    clear B1 NC
    go_wp2_with fail
    refine (NO _).mono ?_
    rintro e w2 ⟨rfl, hw⟩
    obtain rfl := hw.symm
    clear NO q1
    go_wp2_with fail
    refine (SG _).mono ?_
    rintro e w3 ⟨rfl, hw⟩
    obtain rfl := hw.symm
    clear SG
    go_wp2
    go_ret2
    exact ⟨rfl, by first | exact hB.out | (rw [← hgs]; exact hB.out)⟩

end Go.Proofs.Ytcnjllecobhalaa
