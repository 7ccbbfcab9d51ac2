/-
  Rounding: the smaller functions of both sides.
-/
import Derived.Test.YtcgnefgdfgikdaaGreatF1
import Derived.BigQuiet
import Derived.Shelf.Lays
import Derived.Shelf.Strconv.Itoa0
import Derived.Test.YtcgnefgdfgikdaaGreatU4
namespace Go.Proofs.YtcgnefgdfgikdaaGreat
open Go.RowKit

theorem l4LenB (m : Nat) (h : m < 18446744073709551616) (w : World) :
    Calls Tryz.prog 97 #[.int .u64 (m : Int)] w fun e w' => e = .returned (.int .i64 (Lib.bitLen m)) ∧ w' = w := by
  go_enter Tryz.func97, Tryz.ntmps97
  go_wp2
  go_loopw [0, 3] (fun x c wr => ∃ (k j : Nat), Hid (k < 18446744073709551616 ∧ j ≤ 64 ∧ j + Lib.bitLen k = Lib.bitLen m) ∧ x = .int .u64 (k : Int) ∧ c = .int .i64 (j : Int) ∧ wr = w) (fun x _ _ => (intOf x).toNat)
  case atStart => exact ⟨m, 0, ⟨h, by omega, by omega⟩, rfl, rfl, rfl⟩
  case round =>
    obtain ⟨k, j, hk, rfl, rfl, hwr⟩ := hrel
    obtain rfl := hwr
    by_cases h0 : k = 0
    · subst h0
      have e : (j : Int) = Lib.bitLen m := by have := hk.out.2.2; rw [bl_zero] at this; omega
      go_wp2
      go_ret
      exact ⟨congrArg (fun z => Ending.returned (.int .i64 z)) e, rfl⟩
    · have hp : (0 : Int) < k := by omega
      have hw1 : wrap64 ((j : Int) + 1) = (j : Int) + 1 := by have := hk.out.2.1; unfold wrap64; omega
      go_wp2
      go_roundw
      case rel =>
        obtain ⟨h1, h2, h3⟩ := hk.out
        have hb : Lib.bitLen k = 1 + Lib.bitLen (k / 2) := by
          by_cases h2 : k / 2 = 0
          · have : k = 1 := by omega
            subst this
            decide
          · obtain ⟨a1, a2, a3, a4⟩ := bl_is (k / 2) (by omega) h2
            generalize Lib.bitLen (k / 2) = n at *
            obtain ⟨n', rfl⟩ : ∃ n', n = n' + 1 := ⟨n - 1, by omega⟩
            refine bl_eq k _ h1 (by omega) ?_ ?_
            · rw [show 1 + (n' + 1) - 1 = n' + 1 by omega, Nat.pow_succ]
              rw [show n' + 1 - 1 = n' by omega] at a3
              omega
            · rw [show 1 + (n' + 1) = n' + 1 + 1 by omega, Nat.pow_succ]
              omega
        refine ⟨k / 2, j + 1, ⟨by omega, ?_, by omega⟩, by simp, by rw [hw1]; simp, trivial⟩
        have : Lib.bitLen m ≤ 64 := bl_le m 64 h (by simpa using h)
        omega
      case measure => simp [intOf]; omega

end Go.Proofs.YtcgnefgdfgikdaaGreat

namespace Go.Proofs.YtcgnefgdfgikdaaGreat
open Go.RowKit

theorem Keeps.more {W w : World} (h : Keeps W w) : Keeps W w.drew := h.step (Below.refl _ _).drew

end Go.Proofs.YtcgnefgdfgikdaaGreat

namespace Go.Proofs.YtcgnefgdfgikdaaGreat
open Go.RowKit

end Go.Proofs.YtcgnefgdfgikdaaGreat

namespace Go.Proofs.YtcgnefgdfgikdaaGreat
open Go.RowKit

end Go.Proofs.YtcgnefgdfgikdaaGreat

namespace Go.Proofs.YtcgnefgdfgikdaaGreat
open Go.RowKit

/-- 0: finite, 1: infinite, 2: no number. -/
def cl16 (a : Int) : Int := if a / 1024 % 32 = 31 then (if a % 1024 = 0 then 1 else 2) else 0
def vm16 (a : Int) : Int := if a / 1024 % 32 = 31 then 0 else if a / 1024 % 32 = 0 then a % 1024 else 1024 + a % 1024
def ve16 (a : Int) : Int := if a / 1024 % 32 = 31 then 0 else if a / 1024 % 32 = 0 then (-24) else (-24) + a / 1024 % 32 - 1

/-- 0: finite, 1: infinite, 2: no number. -/
def cl32 (a : Int) : Int := if a / 8388608 % 256 = 255 then (if a % 8388608 = 0 then 1 else 2) else 0
def vm32 (a : Int) : Int := if a / 8388608 % 256 = 255 then 0 else if a / 8388608 % 256 = 0 then a % 8388608 else 8388608 + a % 8388608
def ve32 (a : Int) : Int := if a / 8388608 % 256 = 255 then 0 else if a / 8388608 % 256 = 0 then (-149) else (-149) + a / 8388608 % 256 - 1

theorem l4KindNo (kind : Int) (h1 : kind ≠ 16) (h2 : kind ≠ 32) (w : World) :
    Calls Tryz.prog 85 #[.int .i64 kind] w fun e w' => e = .returned (.tuple #[.agg #[.int .u64 0, .int .u64 0], .bool false]) ∧ Below w.heap.size w w' := by
  have k1 : (kind == 16) = false := by simp [h1]
  have k2 : (kind == 32) = false := by simp [h2]
  go_enter Tryz.func85, Tryz.ntmps85
  go_wp2
  refine bodyPost_ret (v := .tuple #[.agg #[.int .u64 0, .int .u64 0], .bool false]) (by simp [results, Tryz.results85, go_sem]) rfl ⟨rfl, ?_⟩
  (repeat (first | refine Below.alloc ?_ (by first | (simp; done) | (simp; omega)) _ | refine Below.setCell ?_ (by first | (simp; done) | (simp; omega)) _ | refine bel_dN ?_ _ | refine Below.drew ?_ | exact Below.refl _ _))

theorem l4Kind16 (w : World) :
    Calls Tryz.prog 85 #[.int .i64 16] w fun e w' => e = .returned (.tuple #[(.agg #[.int .u64 5, .int .u64 10]), .bool true]) ∧ Below w.heap.size w w' := by
  go_enter Tryz.func85, Tryz.ntmps85
  go_wp2
  refine bodyPost_ret (v := .tuple #[(.agg #[.int .u64 5, .int .u64 10]), .bool true]) (by simp [results, Tryz.results85, go_sem]) rfl ⟨rfl, ?_⟩
  (repeat (first | refine Below.alloc ?_ (by first | (simp; done) | (simp; omega)) _ | refine Below.setCell ?_ (by first | (simp; done) | (simp; omega)) _ | refine bel_dN ?_ _ | refine Below.drew ?_ | exact Below.refl _ _))

theorem l4Kind32 (w : World) :
    Calls Tryz.prog 85 #[.int .i64 32] w fun e w' => e = .returned (.tuple #[(.agg #[.int .u64 8, .int .u64 23]), .bool true]) ∧ Below w.heap.size w w' := by
  go_enter Tryz.func85, Tryz.ntmps85
  go_wp2
  refine bodyPost_ret (v := .tuple #[(.agg #[.int .u64 8, .int .u64 23]), .bool true]) (by simp [results, Tryz.results85, go_sem]) rfl ⟨rfl, ?_⟩
  (repeat (first | refine Below.alloc ?_ (by first | (simp; done) | (simp; omega)) _ | refine Below.setCell ?_ (by first | (simp; done) | (simp; omega)) _ | refine bel_dN ?_ _ | refine Below.drew ?_ | exact Below.refl _ _))

theorem l4Least16 (w : World) :
    Calls Tryz.prog 98 #[(.agg #[.int .u64 5, .int .u64 10])] w fun e w' => e = .returned (.int .i64 (-24)) ∧ Below w.heap.size w w' := by
  go_enter Tryz.func98, Tryz.ntmps98
  go_wp2
  go_ret
  refine ⟨rfl, ?_⟩
  (repeat (first | refine Below.alloc ?_ (by first | (simp; done) | (simp; omega)) _ | refine Below.setCell ?_ (by first | (simp; done) | (simp; omega)) _ | refine bel_dN ?_ _ | refine Below.drew ?_ | exact Below.refl _ _))

theorem l4Least32 (w : World) :
    Calls Tryz.prog 98 #[(.agg #[.int .u64 8, .int .u64 23])] w fun e w' => e = .returned (.int .i64 (-149)) ∧ Below w.heap.size w w' := by
  go_enter Tryz.func98, Tryz.ntmps98
  go_wp2
  go_ret
  refine ⟨rfl, ?_⟩
  (repeat (first | refine Below.alloc ?_ (by first | (simp; done) | (simp; omega)) _ | refine Below.setCell ?_ (by first | (simp; done) | (simp; omega)) _ | refine bel_dN ?_ _ | refine Below.drew ?_ | exact Below.refl _ _))

theorem l4Sign16 (b : Bool) (w : World) :
    Calls Tryz.prog 96 #[(.agg #[.int .u64 5, .int .u64 10]), .bool b] w fun e w' => e = .returned (.int .u32 (b.toNat * 32768)) ∧ Below w.heap.size w w' := by
  cases b
  · go_enter Tryz.func96, Tryz.ntmps96
    go_wp2
    go_ret
    refine ⟨rfl, ?_⟩
    (repeat (first | refine Below.alloc ?_ (by first | (simp; done) | (simp; omega)) _ | refine Below.setCell ?_ (by first | (simp; done) | (simp; omega)) _ | refine bel_dN ?_ _ | refine Below.drew ?_ | exact Below.refl _ _))
  · go_enter Tryz.func96, Tryz.ntmps96
    go_wp2
    go_ret
    refine ⟨rfl, ?_⟩
    (repeat (first | refine Below.alloc ?_ (by first | (simp; done) | (simp; omega)) _ | refine Below.setCell ?_ (by first | (simp; done) | (simp; omega)) _ | refine bel_dN ?_ _ | refine Below.drew ?_ | exact Below.refl _ _))

theorem l4Sign32 (b : Bool) (w : World) :
    Calls Tryz.prog 96 #[(.agg #[.int .u64 8, .int .u64 23]), .bool b] w fun e w' => e = .returned (.int .u32 (b.toNat * 2147483648)) ∧ Below w.heap.size w w' := by
  cases b
  · go_enter Tryz.func96, Tryz.ntmps96
    go_wp2
    go_ret
    refine ⟨rfl, ?_⟩
    (repeat (first | refine Below.alloc ?_ (by first | (simp; done) | (simp; omega)) _ | refine Below.setCell ?_ (by first | (simp; done) | (simp; omega)) _ | refine bel_dN ?_ _ | refine Below.drew ?_ | exact Below.refl _ _))
  · go_enter Tryz.func96, Tryz.ntmps96
    go_wp2
    go_ret
    refine ⟨rfl, ?_⟩
    (repeat (first | refine Below.alloc ?_ (by first | (simp; done) | (simp; omega)) _ | refine Below.setCell ?_ (by first | (simp; done) | (simp; omega)) _ | refine bel_dN ?_ _ | refine Below.drew ?_ | exact Below.refl _ _))

theorem l4Inf16 (b : Bool) (w : World) :
    Calls Tryz.prog 99 #[(.agg #[.int .u64 5, .int .u64 10]), .bool b] w fun e w' => e = .returned (.int .u32 (b.toNat * 32768 + 31744)) ∧ Below w.heap.size w w' := by
  cases b
  · have j : bits .or .u32 31744 0 = 31744 := or32_zero _ (by omega) (by omega)
    go_enter Tryz.func99, Tryz.ntmps99
    go_wp2
    go_ret
    refine ⟨rfl, ?_⟩
    (repeat (first | refine Below.alloc ?_ (by first | (simp; done) | (simp; omega)) _ | refine Below.setCell ?_ (by first | (simp; done) | (simp; omega)) _ | refine bel_dN ?_ _ | refine Below.drew ?_ | exact Below.refl _ _))
  · have j : bits .or .u32 31744 32768 = 32768 + 31744 := by rw [or32_comm]; exact orJoin 15 1 31744 (by omega) (by omega) (by omega) (by omega)
    go_enter Tryz.func99, Tryz.ntmps99
    go_wp2
    go_ret
    refine ⟨rfl, ?_⟩
    (repeat (first | refine Below.alloc ?_ (by first | (simp; done) | (simp; omega)) _ | refine Below.setCell ?_ (by first | (simp; done) | (simp; omega)) _ | refine bel_dN ?_ _ | refine Below.drew ?_ | exact Below.refl _ _))

theorem l4Inf32 (b : Bool) (w : World) :
    Calls Tryz.prog 99 #[(.agg #[.int .u64 8, .int .u64 23]), .bool b] w fun e w' => e = .returned (.int .u32 (b.toNat * 2147483648 + 2139095040)) ∧ Below w.heap.size w w' := by
  cases b
  · have j : bits .or .u32 2139095040 0 = 2139095040 := or32_zero _ (by omega) (by omega)
    go_enter Tryz.func99, Tryz.ntmps99
    go_wp2
    go_ret
    refine ⟨rfl, ?_⟩
    (repeat (first | refine Below.alloc ?_ (by first | (simp; done) | (simp; omega)) _ | refine Below.setCell ?_ (by first | (simp; done) | (simp; omega)) _ | refine bel_dN ?_ _ | refine Below.drew ?_ | exact Below.refl _ _))
  · have j : bits .or .u32 2139095040 2147483648 = 2147483648 + 2139095040 := by rw [or32_comm]; exact orJoin 31 1 2139095040 (by omega) (by omega) (by omega) (by omega)
    go_enter Tryz.func99, Tryz.ntmps99
    go_wp2
    go_ret
    refine ⟨rfl, ?_⟩
    (repeat (first | refine Below.alloc ?_ (by first | (simp; done) | (simp; omega)) _ | refine Below.setCell ?_ (by first | (simp; done) | (simp; omega)) _ | refine bel_dN ?_ _ | refine Below.drew ?_ | exact Below.refl _ _))

end Go.Proofs.YtcgnefgdfgikdaaGreat
