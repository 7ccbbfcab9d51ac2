/-
  Unary of the other side.
-/
import Derived.Test.YtnimlkobcginjaaDoorIWid
import Derived.Test.YtnimlkobcginjaaDoorIULib
import Derived.Test.YtnimlkobcginjaaDoorIPopM
namespace Go.Proofs.YtnimlkobcginjaaDoor
open Go.RowKit

theorem ext8 (c : Int) : IntKind.u64.wrap (wrap64 (IntKind.i8.wrap (c % 256))) = IntKind.u64.wrap (IntKind.i8.wrap c) := by
  have e : ∀ n, IntKind.i8.wrap n = (n + 128) % 256 - 128 := fun n => by simp [IntKind.wrap, IntKind.signed, IntKind.bits]; omega
  rw [e, e, IntKind.wrap_u64, IntKind.wrap_u64]
  unfold wrap64
  omega
theorem ext16 (c : Int) : IntKind.u64.wrap (wrap64 (IntKind.i16.wrap (IntKind.u16.wrap c))) = IntKind.u64.wrap (IntKind.i16.wrap c) := by
  have e : ∀ n, IntKind.i16.wrap n = (n + 32768) % 65536 - 32768 := fun n => by simp [IntKind.wrap, IntKind.signed, IntKind.bits]; omega
  have e2 : ∀ n, IntKind.u16.wrap n = n % 65536 := fun n => by simp [IntKind.wrap, IntKind.signed, IntKind.bits]
  rw [e, e, e2, IntKind.wrap_u64, IntKind.wrap_u64]
  unfold wrap64
  omega
theorem near64 (n : Int) (h0 : 0 ≤ n) (h1 : n ≤ 128) : wrap64 n = n := by unfold wrap64; omega
theorem nearU (n : Int) (h0 : 0 ≤ n) (h1 : n ≤ 128) : IntKind.u64.wrap n = n := by rw [IntKind.wrap_u64]; omega
theorem bits_le {b : Int} (hb : b = 32 ∨ b = 64) : b ≤ 64 := by omega
theorem uwrap_lo (n : Int) : 0 ≤ IntKind.u64.wrap n := by rw [IntKind.wrap_u64]; omega
theorem uwrap_hi (n : Int) : IntKind.u64.wrap n ≤ 18446744073709551615 := by rw [IntKind.wrap_u64]; omega
theorem and_one' (a : Int) (h0 : 0 ≤ a) (h1 : a ≤ 18446744073709551615) : bits .and .u64 a 1 = a % 2 := by
  obtain ⟨n, rfl⟩ := Int.eq_ofNat_of_zero_le h0
  have h := bits_and_u64_nat n 1 (by omega) (by omega)
  have e : n &&& 1 = n % 2 := Nat.and_one_is_mod n
  rw [e] at h
  exact h.trans (by omega)

set_option maxHeartbeats 400000 in
theorem us_eqz (b a : Int) (hb : b = 32 ∨ b = 64) (a0 : 0 ≤ a) (a1 : a ≤ 18446744073709551615) (r0 : 0 ≤ ((cutW b a == 0).toNat : Int)) (r1 : ((cutW b a == 0).toNat : Int) ≤ 18446744073709551615) (w : World) :
    Calls Tryd.prog 21 #[.int .i64 b, .int .i64 25, .int .u64 a] w fun e w' => e = .returned (.tuple #[.int .u64 (cutW b (((cutW b a == 0).toNat : Int))), .int .i64 0]) ∧ w' = w := by
  go_enter Tryd.func21, Tryd.ntmps21
  go_wp2_with (first | (go_at_call 24; refine (maskC _ _ hb (by assumption) (by assumption) _).mono ?_; rintro e w' ⟨rfl, hw⟩; obtain rfl := hw.symm) | (go_at_call 35; refine (specYes _ _).mono ?_; rintro e w' ⟨rfl, hw⟩; obtain rfl := hw.symm))
  go_ret2
  exact ⟨rfl, rfl⟩

set_option maxHeartbeats 400000 in
theorem us_extend8 (b a : Int) (hb : b = 32 ∨ b = 64) (a0 : 0 ≤ a) (a1 : a ≤ 18446744073709551615) (w : World) :
    Calls Tryd.prog 21 #[.int .i64 b, .int .i64 26, .int .u64 a] w fun e w' => e = .returned (.tuple #[.int .u64 (cutW b (IntKind.u64.wrap (IntKind.i8.wrap (cutW b a)))), .int .i64 0]) ∧ w' = w := by
  have he := ext8 (cutW b a)
  go_enter Tryd.func21, Tryd.ntmps21
  go_wp2_with (first | (go_at_call 24; refine (maskC _ _ hb (by first | assumption | exact uwrap_lo _) (by first | assumption | exact uwrap_hi _) _).mono ?_; rintro e w' ⟨rfl, hw⟩; obtain rfl := hw.symm) | (go_at_call 35; refine (specYes _ _).mono ?_; rintro e w' ⟨rfl, hw⟩; obtain rfl := hw.symm))
  go_ret2
  exact ⟨rfl, rfl⟩

set_option maxHeartbeats 400000 in
theorem us_extend16 (b a : Int) (hb : b = 32 ∨ b = 64) (a0 : 0 ≤ a) (a1 : a ≤ 18446744073709551615) (w : World) :
    Calls Tryd.prog 21 #[.int .i64 b, .int .i64 27, .int .u64 a] w fun e w' => e = .returned (.tuple #[.int .u64 (cutW b (IntKind.u64.wrap (IntKind.i16.wrap (cutW b a)))), .int .i64 0]) ∧ w' = w := by
  have he := ext16 (cutW b a)
  go_enter Tryd.func21, Tryd.ntmps21
  go_wp2_with (first | (go_at_call 24; refine (maskC _ _ hb (by first | assumption | exact uwrap_lo _) (by first | assumption | exact uwrap_hi _) _).mono ?_; rintro e w' ⟨rfl, hw⟩; obtain rfl := hw.symm) | (go_at_call 35; refine (specYes _ _).mono ?_; rintro e w' ⟨rfl, hw⟩; obtain rfl := hw.symm))
  go_ret2
  exact ⟨rfl, rfl⟩

set_option maxHeartbeats 1000000 in
theorem us_none (b a : Int) (hb : b = 32 ∨ b = 64) (a0 : 0 ≤ a) (a1 : a ≤ 18446744073709551615) (op : Int) (h : op < 22 ∨ 28 ≤ op) (w : World) :
    Calls Tryd.prog 21 #[.int .i64 b, .int .i64 op, .int .u64 a] w fun e w' => e = .returned (.tuple #[.int .u64 0, .int .i64 3]) ∧ w' = w := by
  have k22 : (op == 22) = false := by simp; omega
  have k23 : (op == 23) = false := by simp; omega
  have k24 : (op == 24) = false := by simp; omega
  have k25 : (op == 25) = false := by simp; omega
  have k26 : (op == 26) = false := by simp; omega
  have k27 : (op == 27) = false := by simp; omega
  clear h
  go_enter Tryd.func21, Tryd.ntmps21
  go_wp2_with (go_at_call 24; refine (maskC _ _ hb (by assumption) (by assumption) _).mono ?_; rintro e w' ⟨rfl, hw⟩; obtain rfl := hw.symm)
  go_ret2
  exact ⟨rfl, rfl⟩

end Go.Proofs.YtnimlkobcginjaaDoor
