/-
  Rows of noughts that are made.
-/
import Derived.Test.YtcgnefgdfgikdaaGreatA1
import Derived.Test.YtcgnefgdfgikdaaGreatU4
import Derived.Laws.BytesString
import Derived.Laws.IdiomStrings
import Derived.WalkKit
import Derived.Below
import Derived.Laws.Bits64b
import Derived.PlainAid
import Derived.Test.YtcgnefgdfgikdaaGreatC1
import Derived.Test.YtcgnefgdfgikdaaGreatU3
import Derived.Lib.AppendStr
namespace Go.Proofs.YtcgnefgdfgikdaaGreat
open Go.ChangeShapes Go.WideShapes Go.ChangeAt Go.RowKit

def zeros (n : Nat) : ByteArray := ⟨Array.replicate n 0⟩
theorem zeros_size (n : Nat) : (zeros n).size = n := by simp [zeros, ByteArray.size]
theorem made_cell (n j : Nat) (h : j < n) : (madeCells (Value.int .u8 0).cells n)[j]? = some (.int .u8 0) := by
  simp [madeCells, Value.cells, h, Nat.mod_one]
theorem made_list (n : Nat) : (madeCells (Value.int .u8 0).cells n).toList = List.replicate n (.int .u8 0) := by
  apply List.ext_getElem?
  intro j
  rw [Array.getElem?_toList]
  by_cases h : j < n
  · rw [made_cell n j h]; simp [h]
  · simp [h, madeCells]
theorem infoU8w : ∃ i0, Tryz.prog.info? 5 = some i0 ∧ i0.zero = some (.int .u8 0) ∧ i0.size = 1 ∧ i0.bytes = 1 := by
  have h : (Tryz.prog.info? 5).map (fun i => (i.zero, i.size, i.bytes)) = some (some (.int .u8 0), 1, 1) := by kernel_rfl
  exact info_parts h
theorem madeU8 (n : Nat) (h : n ≤ 1048576) (W : World) :
    (Instr.makeSlice 22 (.int .i64 (n : Int)) (.int .i64 (n : Int))).run Tryz.prog W = .ok (.slice (some ⟨W.heap.size, 0, none⟩) n n) (W.alloc (.cells (madeCells (Value.int .u8 0).cells n) 5)) := by
  obtain ⟨i0, hi, h0, h1, h2⟩ := infoU8w
  have H := run_make (P := Tryz.prog) W 22 5 i0 (.int .u8 0) Tryz.underlying22 hi h0 .i64 .i64 (n : Int) (n : Int) (by omega) (by omega) (by rw [h2]; omega) (by omega)
  rw [h1] at H
  simpa using H
/-- Such a row told as a string. -/
theorem madeTold (W : World) (g n : Nat) (hr : W.heap[g]? = some (.cells (madeCells (Value.int .u8 0).cells n) 5 (0, 0))) :
    (convert 22 9 (.slice (some ⟨g, 0, none⟩) n n)).run Tryz.prog W = .ok (.string (zeros n)) W := by
  have H := run_convert_bytes_back (P := Tryz.prog) W 22 9 5 ⟨g, 0, none⟩ n (List.replicate n 0) Tryz.underlying22 Tryz.underlying5 Tryz.underlying9 (fun j hj => by
    rw [Addr.add_lit, Nat.zero_add]
    simp only [List.length_replicate] at hj
    simp [World.cell?, hr, made_cell n j hj])
  simp only [List.length_replicate, List.toArray_replicate] at H
  exact H

end Go.Proofs.YtcgnefgdfgikdaaGreat

namespace Go.Proofs.YtcgnefgdfgikdaaGreat
open Go.RowKit

theorem or_comm' (x y : Int) : bits .or .u64 x y = bits .or .u64 y x := by
  show IntKind.u64.wrap ((BitVec.ofInt 64 x ||| BitVec.ofInt 64 y).toNat : Int) = IntKind.u64.wrap ((BitVec.ofInt 64 y ||| BitVec.ofInt 64 x).toNat : Int)
  rw [BitVec.or_comm]
theorem u64_toNat (n : Nat) (h : n < 18446744073709551616) : (BitVec.ofInt 64 (n : Int)).toNat = n := by
  rw [BitVec.ofInt_natCast, BitVec.toNat_ofNat]
  exact Nat.mod_eq_of_lt (by omega)
theorem or_nat (x y : Nat) (hx : x < 18446744073709551616) (hy : y < 18446744073709551616) : bits .or .u64 (x : Int) (y : Int) = ((x ||| y : Nat) : Int) := by
  have hz : x ||| y < 2 ^ 64 := Nat.or_lt_two_pow (by omega) (by omega)
  show IntKind.u64.wrap ((BitVec.ofInt 64 (x : Int) ||| BitVec.ofInt 64 (y : Int)).toNat : Int) = _
  rw [BitVec.toNat_or, u64_toNat x hx, u64_toNat y hy, IntKind.wrap_u64]
  omega
theorem or_zero (x : Int) (h0 : 0 ≤ x) (h1 : x ≤ 18446744073709551615) : bits .or .u64 x 0 = x := by
  obtain ⟨n, rfl⟩ := Int.eq_ofNat_of_zero_le h0
  have := or_nat n 0 (by omega) (by omega)
  simpa using this
theorem or_high (x : Int) (h0 : 0 ≤ x) (h1 : x ≤ 4294967295) : bits .or .u64 x (x * 4294967296) = x * 4294967296 + x := by
  obtain ⟨n, rfl⟩ := Int.eq_ofNat_of_zero_le h0
  have h := or_nat (4294967296 * n) n (by omega) (by omega)
  have e : 4294967296 * n ||| n = 4294967296 * n + n := (Nat.two_pow_add_eq_or_of_lt (i := 32) (b := n) (by omega) n).symm
  rw [e] at h
  rw [or_comm', show (n : Int) * 4294967296 = ((4294967296 * n : Nat) : Int) by omega, h]
  omega

theorem and_mask (n : Nat) (h : n < 18446744073709551616) : bits .and .u64 (n : Int) 4294967295 = ((n % 4294967296 : Nat) : Int) := by
  have h := bits_and_u64_nat n 4294967295 h (by omega)
  have e : n &&& 4294967295 = n % 4294967296 := Nat.and_two_pow_sub_one_eq_mod n 32
  rw [e] at h
  exact h
theorem or_join (c d : Nat) (hc : c < 4294967296) (hd : d < 4294967296) : bits .or .u64 ((c * 4294967296 : Nat) : Int) (d : Int) = ((c * 4294967296 + d : Nat) : Int) := by
  have e : 4294967296 * c ||| d = 4294967296 * c + d := (Nat.two_pow_add_eq_or_of_lt (i := 32) (b := d) (by omega) c).symm
  rw [or_nat _ _ (by omega) (by omega), Nat.mul_comm, e]

theorem and_maskI (a : Int) (h0 : 0 ≤ a) (h1 : a ≤ 18446744073709551615) : bits .and .u64 a 4294967295 = a % 4294967296 := by
  obtain ⟨n, rfl⟩ := Int.eq_ofNat_of_zero_le h0
  exact (and_mask n (by omega)).trans (by omega)
theorem or_joinI (k d : Int) (d0 : 0 ≤ d) (d1 : d < 4294967296) : bits .or .u64 (IntKind.u64.wrap (k * 4294967296)) d = k % 4294967296 * 4294967296 + d := by
  obtain ⟨n, rfl⟩ := Int.eq_ofNat_of_zero_le d0
  obtain ⟨m, hm⟩ : ∃ m : Nat, k % 4294967296 = m := ⟨(k % 4294967296).toNat, by omega⟩
  have e : IntKind.u64.wrap (k * 4294967296) = ((m * 4294967296 : Nat) : Int) := by rw [IntKind.wrap_u64]; omega
  rw [e, or_join m n (by omega) (by omega), hm]
  omega

end Go.Proofs.YtcgnefgdfgikdaaGreat

namespace Go.Proofs.YtcgnefgdfgikdaaGreat
open Go.ChangeShapes Go.WideShapes Go.ChangeAt Go.RowKit Go.PlainAid

/-- The first k bytes as a number, the lowest first. -/
def leN (s : ByteArray) : Nat → Nat
  | 0 => 0
  | k + 1 => leN s k + (bt s k).toNat * 2 ^ (8 * k)
theorem leN_lt (s : ByteArray) : ∀ k, leN s k < 2 ^ (8 * k)
  | 0 => by simp [leN]
  | k + 1 => by
    have h := leN_lt s k
    have hb := bt_le s k
    have h0 := bt_nonneg s k
    have e : 2 ^ (8 * (k + 1)) = 256 * 2 ^ (8 * k) := by rw [show 8 * (k + 1) = 8 + 8 * k by omega, Nat.pow_add]
    have h2 : (bt s k).toNat ≤ 255 := by omega
    have h3 : (bt s k).toNat * 2 ^ (8 * k) ≤ 255 * 2 ^ (8 * k) := Nat.mul_le_mul_right _ h2
    show leN s k + _ < _
    omega
theorem leN_le (s : ByteArray) (k : Nat) (h : k ≤ 8) : leN s k < 18446744073709551616 := by
  have h1 := leN_lt s k
  have h2 : 2 ^ (8 * k) ≤ 2 ^ 64 := Nat.pow_le_pow_right (by omega) (by omega)
  omega
theorem or_le (s : ByteArray) (k : Nat) (h : k < 8) : bits .or .u64 (leN s k : Int) (IntKind.u64.wrap (bt s k * 2 ^ (8 * k))) = (leN s (k + 1) : Int) := by
  have h1 := leN_lt s k
  have h0 := bt_nonneg s k
  obtain ⟨b, hb⟩ : ∃ b : Nat, bt s k = b := ⟨(bt s k).toNat, by omega⟩
  have h3 := leN_le s (k + 1) (by omega)
  have e : leN s (k + 1) = leN s k + b * 2 ^ (8 * k) := by show _ + (bt s k).toNat * _ = _; rw [hb]; rfl
  have e2 : IntKind.u64.wrap (bt s k * 2 ^ (8 * k)) = ((b * 2 ^ (8 * k) : Nat) : Int) := by
    rw [hb, IntKind.wrap_u64]
    have : ((b : Int) * 2 ^ (8 * k)) = ((b * 2 ^ (8 * k) : Nat) : Int) := by simp
    rw [this]
    omega
  rw [e2, or_comm', or_nat _ _ (by omega) (by omega), e]
  have e3 := (Nat.two_pow_add_eq_or_of_lt (i := 8 * k) (b := leN s k) h1 b).symm
  rw [Nat.mul_comm b, e3]
  omega

theorem or_low (x b : Nat) (hx : x < 72057594037927936) (hb : b < 256) : bits .or .u64 (IntKind.u64.wrap ((x : Int) * 256)) (b : Int) = ((x * 256 + b : Nat) : Int) := by
  have e : IntKind.u64.wrap ((x : Int) * 256) = ((256 * x : Nat) : Int) := by rw [IntKind.wrap_u64]; omega
  have e3 := (Nat.two_pow_add_eq_or_of_lt (i := 8) (b := b) hb x).symm
  rw [e, or_nat _ _ (by omega) (by omega)]
  rw [show 256 * x = 2 ^ 8 * x by rfl, e3]
  omega

/-- A number's bytes, the lowest first. -/
def leB (x n : Nat) : List UInt8 := (List.range n).map fun i => UInt8.ofNat (x / 2 ^ (8 * i))
theorem leB_len (x n : Nat) : (leB x n).length = n := by simp [leB]
/-- The row of n bytes of which k are written. -/
def leRow (x n k : Nat) : Array Value := ((List.range n).map fun i => if i < k then Value.int .u8 (((UInt8.ofNat (x / 2 ^ (8 * i))).toNat : Nat) : Int) else .int .u8 0).toArray
theorem leRow_at (x n k j : Nat) (h : j < n) : (leRow x n k)[j]? = some (if j < k then Value.int .u8 (((UInt8.ofNat (x / 2 ^ (8 * j))).toNat : Nat) : Int) else .int .u8 0) := by
  simp [leRow, h]
theorem leRow_zero (x n : Nat) : madeCells (Value.int .u8 0).cells n = leRow x n 0 := by
  apply Array.ext'
  rw [made_list]
  apply List.ext_getElem?
  intro j
  by_cases h : j < n
  · simp [leRow, h]
  · simp [leRow, h]
theorem leRow_set (x n k : Nat) : (leRow x n k).setIfInBounds k (.int .u8 (((UInt8.ofNat (x / 2 ^ (8 * k))).toNat : Nat) : Int)) = leRow x n (k + 1) := by
  apply Array.ext'
  apply List.ext_getElem?
  intro j
  by_cases h : j < n
  · by_cases hjk : k = j
    · subst hjk; simp [leRow, h]
    · have h1 : (j < k + 1) = (j < k) := by apply propext; omega
      simp [leRow, h, hjk, h1]
  · simp [leRow, h]

theorem u8_of (x k : Nat) : (x : Int) / 2 ^ (8 * k) % 256 = (((UInt8.ofNat (x / 2 ^ (8 * k))).toNat : Nat) : Int) := by
  have e : ((x : Int) / 2 ^ (8 * k)) = ((x / 2 ^ (8 * k) : Nat) : Int) := by simp
  rw [e]
  simp

/-- A row of a number's bytes told as a string. -/
theorem leTold (W : World) (g x n : Nat) (hr : W.heap[g]? = some (.cells (leRow x n n) 5 (0, 0))) :
    (convert 22 9 (.slice (some ⟨g, 0, none⟩) n n)).run Tryz.prog W = .ok (.string ⟨(leB x n).toArray⟩) W := by
  have H := run_convert_bytes_back (P := Tryz.prog) W 22 9 5 ⟨g, 0, none⟩ n (leB x n) Tryz.underlying22 Tryz.underlying5 Tryz.underlying9 (fun j hj => by
    rw [Addr.add_lit, Nat.zero_add]
    rw [leB_len] at hj
    have := leRow_at x n n j hj
    rw [if_pos hj] at this
    simp [World.cell?, hr, this, leB])
  rw [leB_len] at H
  exact H

end Go.Proofs.YtcgnefgdfgikdaaGreat

namespace Go.Proofs.YtcgnefgdfgikdaaGreat
open Go.ChangeShapes Go.WideShapes Go.ChangeAt Go.RowKit

/-- The bytes of A, of a good instruction of kind k. -/
def ob (k a : Int) : List UInt8 :=
  if k = 1 then leB a.toNat 1
  else if k = 2 then ul 10 a.toNat
  else if k = 3 then ul 10 a.toNat
  else if k = 4 then sl 10 a
  else if k = 5 then sl 10 a
  else if k = 6 then leB a.toNat 4
  else []
theorem ob_len (k a : Int) : (ob k a).length ≤ 10 := by
  unfold ob
  repeat' split
  all_goals first | (rw [leB_len]; omega) | exact ul_len 10 _ | exact sl_len 10 _ | simp

def opByte (op : Int) : UInt8 := UInt8.ofNat (op % 256).toNat
theorem opByte_int (op : Int) : ((opByte op).toNat : Int) = op % 256 := by
  unfold opByte; rw [UInt8.toNat_ofNat']; omega
def ib (x : Int × Int) : List UInt8 := opByte x.1 :: ob (shp x.1) x.2
theorem ib_len (x : Int × Int) : (ib x).length ≤ 11 := by have := ob_len (shp x.1) x.2; simp [ib]; omega
def cb (L : List (Int × Int)) : List UInt8 := L.flatMap ib
theorem cb_snoc (L : List (Int × Int)) (k : Nat) (h : k < L.length) : cb (L.take (k + 1)) = cb (L.take k) ++ ib L[k] := by
  unfold cb; rw [List.take_succ_eq_append_getElem h, List.flatMap_append, List.flatMap_cons, List.flatMap_nil, List.append_nil]
theorem cb_len (L : List (Int × Int)) : (cb L).length ≤ 11 * L.length := by
  induction L with
  | nil => simp [cb]
  | cons x r ih => have h := ib_len x; have e : cb (x :: r) = ib x ++ cb r := by simp [cb]
                   rw [e, List.length_append, List.length_cons]; omega
/-- What A is, of a good instruction. -/
theorem may_nat {k a : Int} (hk : k = 1 ∨ k = 2 ∨ k = 3 ∨ k = 6) (h : mayK k a = true) : 0 ≤ a ∧ a ≤ 4294967295 := by
  rcases hk with rfl | rfl | rfl | rfl
  all_goals
    simp [mayK] at h
    omega

end Go.Proofs.YtcgnefgdfgikdaaGreat
