/-
  What a float means, both sides.
-/
import Derived.Test.YtljnciclbjcinaaGreatDoorFVal
import Derived.Test.YtljnciclbjcinaaGreatDoorFValB
namespace Go.Proofs.YtljnciclbjcinaaGreatDoor
open Go.RowKit

/-- 0: finite, 1: infinite, 2: no number. -/
def cl16 (a : Int) : Int := if a / 1024 % 32 = 31 then (if a % 1024 = 0 then 1 else 2) else 0
def vm16 (a : Int) : Int := if a / 1024 % 32 = 31 then 0 else if a / 1024 % 32 = 0 then a % 1024 else 1024 + a % 1024
def ve16 (a : Int) : Int := if a / 1024 % 32 = 31 then 0 else if a / 1024 % 32 = 0 then (-24) else (-24) + a / 1024 % 32 - 1

/-- 0: finite, 1: infinite, 2: no number. -/
def cl32 (a : Int) : Int := if a / 8388608 % 256 = 255 then (if a % 8388608 = 0 then 1 else 2) else 0
def vm32 (a : Int) : Int := if a / 8388608 % 256 = 255 then 0 else if a / 8388608 % 256 = 0 then a % 8388608 else 8388608 + a % 8388608
def ve32 (a : Int) : Int := if a / 8388608 % 256 = 255 then 0 else if a / 8388608 % 256 = 0 then (-149) else (-149) + a / 8388608 % 256 - 1

theorem value16 (a : Int) (h0 : 0 ≤ a) (h1 : a ≤ 4294967295) (w : World) :
    Calls Tryz.prog 122 #[(.agg #[.int .i64 10, .int .i64 15, .int .u32 31]), .int .u32 a] w fun e w' => e = .returned (.agg #[.int .i64 (cl16 a), .bool (a / 32768 % 2 == 1), .int .u64 (vm16 a), .int .i64 (ve16 a)]) ∧ Below w.heap.size w w' := by
  have HS : Hid (∀ w, Calls Tryz.prog 143 #[(.agg #[.int .i64 10, .int .i64 15, .int .u32 31]), .int .u32 a] w fun e w' => e = .returned (.agg #[.int .u32 (a / 32768 % 2), .int .u32 (a / 1024 % 32), .int .u32 (a % 1024)]) ∧ Below w.heap.size w w') := split16 a h0 h1
  unfold cl16 vm16 ve16
  have x0 : 0 ≤ a / 1024 % 32 := by omega
  have x1 : a / 1024 % 32 ≤ 31 := by omega
  have f0 : 0 ≤ a % 1024 := by omega
  have f1 : a % 1024 < 1024 := by omega
  generalize a / 32768 % 2 = s at *
  generalize a / 1024 % 32 = x at *
  generalize a % 1024 = f at *
  by_cases hx : x = 31
  · subst hx
    by_cases hf : f = 0
    · subst hf
      simpa using valInf16 s a HS w
    · simpa [hf] using valNan16 s f a hf HS w
  · by_cases hx0 : x = 0
    · subst hx0
      simpa using valSub16 s f a f0 f1 HS w
    · simpa [hx, hx0] using valNorm16 s x f a x0 x1 f0 f1 hx0 hx HS w

theorem value32 (a : Int) (h0 : 0 ≤ a) (h1 : a ≤ 4294967295) (w : World) :
    Calls Tryz.prog 122 #[(.agg #[.int .i64 23, .int .i64 127, .int .u32 255]), .int .u32 a] w fun e w' => e = .returned (.agg #[.int .i64 (cl32 a), .bool (a / 2147483648 % 2 == 1), .int .u64 (vm32 a), .int .i64 (ve32 a)]) ∧ Below w.heap.size w w' := by
  have HS : Hid (∀ w, Calls Tryz.prog 143 #[(.agg #[.int .i64 23, .int .i64 127, .int .u32 255]), .int .u32 a] w fun e w' => e = .returned (.agg #[.int .u32 (a / 2147483648 % 2), .int .u32 (a / 8388608 % 256), .int .u32 (a % 8388608)]) ∧ Below w.heap.size w w') := split32 a h0 h1
  unfold cl32 vm32 ve32
  have x0 : 0 ≤ a / 8388608 % 256 := by omega
  have x1 : a / 8388608 % 256 ≤ 255 := by omega
  have f0 : 0 ≤ a % 8388608 := by omega
  have f1 : a % 8388608 < 8388608 := by omega
  generalize a / 2147483648 % 2 = s at *
  generalize a / 8388608 % 256 = x at *
  generalize a % 8388608 = f at *
  by_cases hx : x = 255
  · subst hx
    by_cases hf : f = 0
    · subst hf
      simpa using valInf32 s a HS w
    · simpa [hf] using valNan32 s f a hf HS w
  · by_cases hx0 : x = 0
    · subst hx0
      simpa using valSub32 s f a f0 f1 HS w
    · simpa [hx, hx0] using valNorm32 s x f a x0 x1 f0 f1 hx0 hx HS w

theorem l4KindNo (kind : Int) (h1 : kind ≠ 16) (h2 : kind ≠ 32) (w : World) :
    Calls Tryz.prog 84 #[.int .i64 kind] w fun e w' => e = .returned (.tuple #[.agg #[.int .u64 0, .int .u64 0], .bool false]) ∧ Below w.heap.size w w' := by
  have k1 : (kind == 16) = false := by simp [h1]
  have k2 : (kind == 32) = false := by simp [h2]
  go_enter Tryz.func84, Tryz.ntmps84
  go_wp2
  refine bodyPost_ret (v := .tuple #[.agg #[.int .u64 0, .int .u64 0], .bool false]) (by simp [results, Tryz.results84, go_sem]) rfl ⟨rfl, ?_⟩
  (repeat (first | refine Below.alloc ?_ (by first | (simp; done) | (simp; omega)) _ | refine Below.setCell ?_ (by first | (simp; done) | (simp; omega)) _ | refine bel_dN ?_ _ | refine Below.drew ?_ | exact Below.refl _ _))

theorem l4Kind16 (w : World) :
    Calls Tryz.prog 84 #[.int .i64 16] w fun e w' => e = .returned (.tuple #[(.agg #[.int .u64 5, .int .u64 10]), .bool true]) ∧ Below w.heap.size w w' := by
  go_enter Tryz.func84, Tryz.ntmps84
  go_wp2
  refine bodyPost_ret (v := .tuple #[(.agg #[.int .u64 5, .int .u64 10]), .bool true]) (by simp [results, Tryz.results84, go_sem]) rfl ⟨rfl, ?_⟩
  (repeat (first | refine Below.alloc ?_ (by first | (simp; done) | (simp; omega)) _ | refine Below.setCell ?_ (by first | (simp; done) | (simp; omega)) _ | refine bel_dN ?_ _ | refine Below.drew ?_ | exact Below.refl _ _))

theorem l4Kind32 (w : World) :
    Calls Tryz.prog 84 #[.int .i64 32] w fun e w' => e = .returned (.tuple #[(.agg #[.int .u64 8, .int .u64 23]), .bool true]) ∧ Below w.heap.size w w' := by
  go_enter Tryz.func84, Tryz.ntmps84
  go_wp2
  refine bodyPost_ret (v := .tuple #[(.agg #[.int .u64 8, .int .u64 23]), .bool true]) (by simp [results, Tryz.results84, go_sem]) rfl ⟨rfl, ?_⟩
  (repeat (first | refine Below.alloc ?_ (by first | (simp; done) | (simp; omega)) _ | refine Below.setCell ?_ (by first | (simp; done) | (simp; omega)) _ | refine bel_dN ?_ _ | refine Below.drew ?_ | exact Below.refl _ _))

theorem l4Mask16 (w : World) :
    Calls Tryz.prog 104 #[(.agg #[.int .u64 5, .int .u64 10])] w fun e w' => e = .returned (.int .u32 65535) ∧ Below w.heap.size w w' := by
  go_enter Tryz.func104, Tryz.ntmps104
  go_wp2
  go_ret
  refine ⟨rfl, ?_⟩
  (repeat (first | refine Below.alloc ?_ (by first | (simp; done) | (simp; omega)) _ | refine Below.setCell ?_ (by first | (simp; done) | (simp; omega)) _ | refine bel_dN ?_ _ | refine Below.drew ?_ | exact Below.refl _ _))

theorem l4Mask32 (w : World) :
    Calls Tryz.prog 104 #[(.agg #[.int .u64 8, .int .u64 23])] w fun e w' => e = .returned (.int .u32 4294967295) ∧ Below w.heap.size w w' := by
  go_enter Tryz.func104, Tryz.ntmps104
  go_wp2
  go_ret
  refine ⟨rfl, ?_⟩
  (repeat (first | refine Below.alloc ?_ (by first | (simp; done) | (simp; omega)) _ | refine Below.setCell ?_ (by first | (simp; done) | (simp; omega)) _ | refine bel_dN ?_ _ | refine Below.drew ?_ | exact Below.refl _ _))

theorem l4Least16 (w : World) :
    Calls Tryz.prog 105 #[(.agg #[.int .u64 5, .int .u64 10])] w fun e w' => e = .returned (.int .i64 (-24)) ∧ Below w.heap.size w w' := by
  go_enter Tryz.func105, Tryz.ntmps105
  go_wp2
  go_ret
  refine ⟨rfl, ?_⟩
  (repeat (first | refine Below.alloc ?_ (by first | (simp; done) | (simp; omega)) _ | refine Below.setCell ?_ (by first | (simp; done) | (simp; omega)) _ | refine bel_dN ?_ _ | refine Below.drew ?_ | exact Below.refl _ _))

theorem l4Least32 (w : World) :
    Calls Tryz.prog 105 #[(.agg #[.int .u64 8, .int .u64 23])] w fun e w' => e = .returned (.int .i64 (-149)) ∧ Below w.heap.size w w' := by
  go_enter Tryz.func105, Tryz.ntmps105
  go_wp2
  go_ret
  refine ⟨rfl, ?_⟩
  (repeat (first | refine Below.alloc ?_ (by first | (simp; done) | (simp; omega)) _ | refine Below.setCell ?_ (by first | (simp; done) | (simp; omega)) _ | refine bel_dN ?_ _ | refine Below.drew ?_ | exact Below.refl _ _))

theorem l4Nan16 (w : World) :
    Calls Tryz.prog 86 #[(.agg #[.int .u64 5, .int .u64 10])] w fun e w' => e = .returned (.int .u32 (31744 + 512)) ∧ Below w.heap.size w w' := by
  have j : bits .or .u32 31744 512 = 31744 + 512 := orJoin 10 31 512 (by omega) (by omega) (by omega) (by omega)
  go_enter Tryz.func86, Tryz.ntmps86
  go_wp2
  go_ret
  refine ⟨rfl, ?_⟩
  (repeat (first | refine Below.alloc ?_ (by first | (simp; done) | (simp; omega)) _ | refine Below.setCell ?_ (by first | (simp; done) | (simp; omega)) _ | refine bel_dN ?_ _ | refine Below.drew ?_ | exact Below.refl _ _))

theorem l4Nan32 (w : World) :
    Calls Tryz.prog 86 #[(.agg #[.int .u64 8, .int .u64 23])] w fun e w' => e = .returned (.int .u32 (2139095040 + 4194304)) ∧ Below w.heap.size w w' := by
  have j : bits .or .u32 2139095040 4194304 = 2139095040 + 4194304 := orJoin 23 255 4194304 (by omega) (by omega) (by omega) (by omega)
  go_enter Tryz.func86, Tryz.ntmps86
  go_wp2
  go_ret
  refine ⟨rfl, ?_⟩
  (repeat (first | refine Below.alloc ?_ (by first | (simp; done) | (simp; omega)) _ | refine Below.setCell ?_ (by first | (simp; done) | (simp; omega)) _ | refine bel_dN ?_ _ | refine Below.drew ?_ | exact Below.refl _ _))

set_option maxHeartbeats 1000000 in
theorem openNorm16 (a a1 s x f : Int) (m1 : bits .and .u32 a 65535 = a1) (m2 : bits .and .u32 a1 1023 = f) (m3 : bits .and .u32 (a1 / 1024) 31 = x) (m4 : a1 / 32768 = s)
    (x0 : 0 ≤ x) (x1 : x ≤ 31) (f0 : 0 ≤ f) (f1 : f < 1024) (hx : x ≠ 0) (hy : x ≠ 31) (w : World) :
    Calls Tryz.prog 85 #[(.agg #[.int .u64 5, .int .u64 10]), .int .u32 a] w fun e w' => e = .returned (.agg #[.bool (s == 1), .bool false, .bool false, .int .u64 (1024 + f), .int .i64 ((-24) + x - 1)]) ∧ Below w.heap.size w w' := by
  have k1 : (x == 31) = false := by simp [hy]
  have k2 : (x == 0) = false := by simp [hx]
  have m5 : bits .or .u32 f 1024 = 1024 + f := by rw [or32_comm]; exact orJoin 10 1 f (by omega) f0 (by omega) (by omega)
  have v1 : IntKind.u64.wrap (1024 + f) = 1024 + f := by rw [IntKind.wrap_u64]; omega
  have v4 : IntKind.i64.wrap x = x := by rw [IntKind.wrap_i64]; omega
  have v5 : wrap64 ((-24) + x) = (-24) + x := by unfold wrap64; omega
  have v6 : wrap64 ((-24) + x - 1) = (-24) + x - 1 := by unfold wrap64; omega
  have v7 : wrap64 x = x := by unfold wrap64; omega
  clear hx hy x0 x1 f0 f1
  go_enter Tryz.func85, Tryz.ntmps85
  go_wp2
  refine bodyPost_ret (v := .agg #[.bool (s == 1), .bool false, .bool false, .int .u64 (1024 + f), .int .i64 ((-24) + x - 1)]) (by simp [results, Tryz.results85, go_sem]) rfl ⟨rfl, ?_⟩
  (repeat (first | refine Below.alloc ?_ (by first | (simp; done) | (simp; omega)) _ | refine Below.setCell ?_ (by first | (simp; done) | (simp; omega)) _ | refine bel_dN ?_ _ | refine Below.drew ?_ | exact Below.refl _ _))

set_option maxHeartbeats 1000000 in
theorem openNorm32 (a a1 s x f : Int) (m1 : bits .and .u32 a 4294967295 = a1) (m2 : bits .and .u32 a1 8388607 = f) (m3 : bits .and .u32 (a1 / 8388608) 255 = x) (m4 : a1 / 2147483648 = s)
    (x0 : 0 ≤ x) (x1 : x ≤ 255) (f0 : 0 ≤ f) (f1 : f < 8388608) (hx : x ≠ 0) (hy : x ≠ 255) (w : World) :
    Calls Tryz.prog 85 #[(.agg #[.int .u64 8, .int .u64 23]), .int .u32 a] w fun e w' => e = .returned (.agg #[.bool (s == 1), .bool false, .bool false, .int .u64 (8388608 + f), .int .i64 ((-149) + x - 1)]) ∧ Below w.heap.size w w' := by
  have k1 : (x == 255) = false := by simp [hy]
  have k2 : (x == 0) = false := by simp [hx]
  have m5 : bits .or .u32 f 8388608 = 8388608 + f := by rw [or32_comm]; exact orJoin 23 1 f (by omega) f0 (by omega) (by omega)
  have v1 : IntKind.u64.wrap (8388608 + f) = 8388608 + f := by rw [IntKind.wrap_u64]; omega
  have v4 : IntKind.i64.wrap x = x := by rw [IntKind.wrap_i64]; omega
  have v5 : wrap64 ((-149) + x) = (-149) + x := by unfold wrap64; omega
  have v6 : wrap64 ((-149) + x - 1) = (-149) + x - 1 := by unfold wrap64; omega
  have v7 : wrap64 x = x := by unfold wrap64; omega
  clear hx hy x0 x1 f0 f1
  go_enter Tryz.func85, Tryz.ntmps85
  go_wp2
  refine bodyPost_ret (v := .agg #[.bool (s == 1), .bool false, .bool false, .int .u64 (8388608 + f), .int .i64 ((-149) + x - 1)]) (by simp [results, Tryz.results85, go_sem]) rfl ⟨rfl, ?_⟩
  (repeat (first | refine Below.alloc ?_ (by first | (simp; done) | (simp; omega)) _ | refine Below.setCell ?_ (by first | (simp; done) | (simp; omega)) _ | refine bel_dN ?_ _ | refine Below.drew ?_ | exact Below.refl _ _))

set_option maxHeartbeats 1000000 in
theorem openSub16 (a a1 s f : Int) (m1 : bits .and .u32 a 65535 = a1) (m2 : bits .and .u32 a1 1023 = f) (m3 : bits .and .u32 (a1 / 1024) 31 = 0) (m4 : a1 / 32768 = s) (f0 : 0 ≤ f) (f1 : f < 1024) (w : World) :
    Calls Tryz.prog 85 #[(.agg #[.int .u64 5, .int .u64 10]), .int .u32 a] w fun e w' => e = .returned (.agg #[.bool (s == 1), .bool false, .bool false, .int .u64 f, .int .i64 (-24)]) ∧ Below w.heap.size w w' := by
  have v1 : IntKind.u64.wrap f = f := by rw [IntKind.wrap_u64]; omega
  clear f0 f1
  go_enter Tryz.func85, Tryz.ntmps85
  go_wp2
  refine bodyPost_ret (v := .agg #[.bool (s == 1), .bool false, .bool false, .int .u64 f, .int .i64 (-24)]) (by simp [results, Tryz.results85, go_sem]) rfl ⟨rfl, ?_⟩
  (repeat (first | refine Below.alloc ?_ (by first | (simp; done) | (simp; omega)) _ | refine Below.setCell ?_ (by first | (simp; done) | (simp; omega)) _ | refine bel_dN ?_ _ | refine Below.drew ?_ | exact Below.refl _ _))

set_option maxHeartbeats 1000000 in
theorem openSub32 (a a1 s f : Int) (m1 : bits .and .u32 a 4294967295 = a1) (m2 : bits .and .u32 a1 8388607 = f) (m3 : bits .and .u32 (a1 / 8388608) 255 = 0) (m4 : a1 / 2147483648 = s) (f0 : 0 ≤ f) (f1 : f < 8388608) (w : World) :
    Calls Tryz.prog 85 #[(.agg #[.int .u64 8, .int .u64 23]), .int .u32 a] w fun e w' => e = .returned (.agg #[.bool (s == 1), .bool false, .bool false, .int .u64 f, .int .i64 (-149)]) ∧ Below w.heap.size w w' := by
  have v1 : IntKind.u64.wrap f = f := by rw [IntKind.wrap_u64]; omega
  clear f0 f1
  go_enter Tryz.func85, Tryz.ntmps85
  go_wp2
  refine bodyPost_ret (v := .agg #[.bool (s == 1), .bool false, .bool false, .int .u64 f, .int .i64 (-149)]) (by simp [results, Tryz.results85, go_sem]) rfl ⟨rfl, ?_⟩
  (repeat (first | refine Below.alloc ?_ (by first | (simp; done) | (simp; omega)) _ | refine Below.setCell ?_ (by first | (simp; done) | (simp; omega)) _ | refine bel_dN ?_ _ | refine Below.drew ?_ | exact Below.refl _ _))

set_option maxHeartbeats 1000000 in
theorem openSpecial16 (a a1 s f : Int) (m1 : bits .and .u32 a 65535 = a1) (m2 : bits .and .u32 a1 1023 = f) (m3 : bits .and .u32 (a1 / 1024) 31 = 31) (m4 : a1 / 32768 = s) (w : World) :
    Calls Tryz.prog 85 #[(.agg #[.int .u64 5, .int .u64 10]), .int .u32 a] w fun e w' => e = .returned (.agg #[.bool (s == 1), .bool (f == 0), .bool (f != 0), .int .u64 0, .int .i64 0]) ∧ Below w.heap.size w w' := by
  go_enter Tryz.func85, Tryz.ntmps85
  go_wp2
  refine bodyPost_ret (v := .agg #[.bool (s == 1), .bool (f == 0), .bool (f != 0), .int .u64 0, .int .i64 0]) (by simp [results, Tryz.results85, go_sem]) rfl ⟨rfl, ?_⟩
  (repeat (first | refine Below.alloc ?_ (by first | (simp; done) | (simp; omega)) _ | refine Below.setCell ?_ (by first | (simp; done) | (simp; omega)) _ | refine bel_dN ?_ _ | refine Below.drew ?_ | exact Below.refl _ _))

set_option maxHeartbeats 1000000 in
theorem openSpecial32 (a a1 s f : Int) (m1 : bits .and .u32 a 4294967295 = a1) (m2 : bits .and .u32 a1 8388607 = f) (m3 : bits .and .u32 (a1 / 8388608) 255 = 255) (m4 : a1 / 2147483648 = s) (w : World) :
    Calls Tryz.prog 85 #[(.agg #[.int .u64 8, .int .u64 23]), .int .u32 a] w fun e w' => e = .returned (.agg #[.bool (s == 1), .bool (f == 0), .bool (f != 0), .int .u64 0, .int .i64 0]) ∧ Below w.heap.size w w' := by
  go_enter Tryz.func85, Tryz.ntmps85
  go_wp2
  refine bodyPost_ret (v := .agg #[.bool (s == 1), .bool (f == 0), .bool (f != 0), .int .u64 0, .int .i64 0]) (by simp [results, Tryz.results85, go_sem]) rfl ⟨rfl, ?_⟩
  (repeat (first | refine Below.alloc ?_ (by first | (simp; done) | (simp; omega)) _ | refine Below.setCell ?_ (by first | (simp; done) | (simp; omega)) _ | refine bel_dN ?_ _ | refine Below.drew ?_ | exact Below.refl _ _))

theorem open16 (a : Int) (h0 : 0 ≤ a) (h1 : a ≤ 4294967295) (w : World) :
    Calls Tryz.prog 85 #[(.agg #[.int .u64 5, .int .u64 10]), .int .u32 a] w fun e w' => e = .returned (.agg #[.bool (a / 32768 % 2 == 1), .bool (cl16 a == 1), .bool (cl16 a == 2), .int .u64 (vm16 a), .int .i64 (ve16 a)]) ∧ Below w.heap.size w w' := by
  have m1 : bits .and .u32 a 65535 = a % 65536 := low32 (15 + 1) (by omega) a h0 h1
  have m2 : bits .and .u32 (a % 65536) 1023 = a % 1024 := by rw [show a % 1024 = a % 65536 % 1024 by omega]; exact low32 10 (by omega) (a % 65536) (by omega) (by omega)
  have m3 : bits .and .u32 (a % 65536 / 1024) 31 = a / 1024 % 32 := by rw [show a / 1024 % 32 = a % 65536 / 1024 % 32 by omega]; exact low32 5 (by omega) (a % 65536 / 1024) (by omega) (by omega)
  have m4 : a % 65536 / 32768 = a / 32768 % 2 := by omega
  unfold cl16 vm16 ve16
  have x0 : 0 ≤ a / 1024 % 32 := by omega
  have x1 : a / 1024 % 32 ≤ 31 := by omega
  have f0 : 0 ≤ a % 1024 := by omega
  have f1 : a % 1024 < 1024 := by omega
  generalize a / 32768 % 2 = s at *
  generalize a / 1024 % 32 = x at *
  generalize a % 1024 = f at *
  by_cases hx : x = 31
  · subst hx
    have H := openSpecial16 a (a % 65536) s f m1 m2 m3 m4 w
    by_cases hf : f = 0
    · subst hf
      simpa using H
    · rw [show (f == 0) = false by simp [hf], show (f != 0) = true by simp [hf]] at H
      simpa [hf] using H
  · by_cases hx0 : x = 0
    · subst hx0
      simpa using openSub16 a (a % 65536) s f m1 m2 m3 m4 f0 f1 w
    · simpa [hx, hx0] using openNorm16 a (a % 65536) s x f m1 m2 m3 m4 x0 x1 f0 f1 hx0 hx w

theorem open32 (a : Int) (h0 : 0 ≤ a) (h1 : a ≤ 4294967295) (w : World) :
    Calls Tryz.prog 85 #[(.agg #[.int .u64 8, .int .u64 23]), .int .u32 a] w fun e w' => e = .returned (.agg #[.bool (a / 2147483648 % 2 == 1), .bool (cl32 a == 1), .bool (cl32 a == 2), .int .u64 (vm32 a), .int .i64 (ve32 a)]) ∧ Below w.heap.size w w' := by
  have m1 : bits .and .u32 a 4294967295 = a % 4294967296 := low32 (31 + 1) (by omega) a h0 h1
  have m2 : bits .and .u32 (a % 4294967296) 8388607 = a % 8388608 := by rw [show a % 8388608 = a % 4294967296 % 8388608 by omega]; exact low32 23 (by omega) (a % 4294967296) (by omega) (by omega)
  have m3 : bits .and .u32 (a % 4294967296 / 8388608) 255 = a / 8388608 % 256 := by rw [show a / 8388608 % 256 = a % 4294967296 / 8388608 % 256 by omega]; exact low32 8 (by omega) (a % 4294967296 / 8388608) (by omega) (by omega)
  have m4 : a % 4294967296 / 2147483648 = a / 2147483648 % 2 := by omega
  unfold cl32 vm32 ve32
  have x0 : 0 ≤ a / 8388608 % 256 := by omega
  have x1 : a / 8388608 % 256 ≤ 255 := by omega
  have f0 : 0 ≤ a % 8388608 := by omega
  have f1 : a % 8388608 < 8388608 := by omega
  generalize a / 2147483648 % 2 = s at *
  generalize a / 8388608 % 256 = x at *
  generalize a % 8388608 = f at *
  by_cases hx : x = 255
  · subst hx
    have H := openSpecial32 a (a % 4294967296) s f m1 m2 m3 m4 w
    by_cases hf : f = 0
    · subst hf
      simpa using H
    · rw [show (f == 0) = false by simp [hf], show (f != 0) = true by simp [hf]] at H
      simpa [hf] using H
  · by_cases hx0 : x = 0
    · subst hx0
      simpa using openSub32 a (a % 4294967296) s f m1 m2 m3 m4 f0 f1 w
    · simpa [hx, hx0] using openNorm32 a (a % 4294967296) s x f m1 m2 m3 m4 x0 x1 f0 f1 hx0 hx w

end Go.Proofs.YtljnciclbjcinaaGreatDoor
