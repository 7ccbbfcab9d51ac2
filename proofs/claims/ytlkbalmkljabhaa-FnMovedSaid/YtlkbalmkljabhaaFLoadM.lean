/-
  What is laid over a memory is read again; numbers come back by their lowest bytes.
-/
import Derived.Test.YtlkbalmkljabhaaMStI
import Derived.Test.YtlkbalmkljabhaaMLoad
import Derived.Test.YtlkbalmkljabhaaMSt
namespace Go.Proofs.Ytlkbalmkljabhaa
open Go.RowKit Go.PlainAid

theorem ext_list (D : ByteArray) (x y : Nat) : (D.extract x y).data.toList = (D.data.toList.drop x).take (y - x) := Lib.extract_data D x y
theorem ba_ext {x y : ByteArray} (h : x.data.toList = y.data.toList) : x = y := ByteArray.ext (Array.toList_inj.1 h)
theorem dlen (D : ByteArray) : D.data.toList.length = D.size := rfl
theorem lo_mid (D : ByteArray) (a : Nat) (s : ByteArray) (h : a + s.size ≤ D.size) : (laidOver D a s).extract a (a + s.size) = s := by
  apply ba_ext
  have e1 : (List.take a D.data.toList).length = a := by rw [List.length_take, dlen]; omega
  rw [ext_list, data_laidOver, List.append_assoc, List.drop_append_of_le_length (by omega), List.drop_of_length_le (by omega), List.nil_append,
    show a + s.size - a = s.size by omega, ← dlen s, List.take_left]
theorem lo_lo (D : ByteArray) (a : Nat) (s : ByteArray) (h : a + s.size ≤ D.size) : (laidOver D a s).extract 0 a = D.extract 0 a := by
  apply ba_ext
  have e1 : (List.take a D.data.toList).length = a := by rw [List.length_take, dlen]; omega
  rw [ext_list, ext_list, data_laidOver, List.drop_zero, List.drop_zero, List.append_assoc, Nat.sub_zero, List.take_append_of_le_length (by omega), List.take_take, Nat.min_self]
theorem lo_hi (D : ByteArray) (a : Nat) (s : ByteArray) (h : a + s.size ≤ D.size) (z : Nat) : (laidOver D a s).extract (a + s.size) z = D.extract (a + s.size) z := by
  apply ba_ext
  have e1 : (List.take a D.data.toList ++ s.data.toList).length = a + s.size := by rw [List.length_append, List.length_take, dlen, dlen]; omega
  rw [ext_list, ext_list, data_laidOver, List.drop_append_of_le_length (by omega), List.drop_of_length_le (by omega), List.nil_append]
theorem good_same {M : Int} {D D' : ByteArray} (h : D'.size = D.size) : good M D' = good M D := by unfold good; rw [h]
theorem leN_leB (x n : Nat) : ∀ k, k ≤ n → leN ⟨(leB x n).toArray⟩ k = x % 2 ^ (8 * k)
  | 0, _ => by simp [leN, Nat.mod_one]
  | k + 1, h => by
    have hb : (bt ⟨(leB x n).toArray⟩ k).toNat = x / 2 ^ (8 * k) % 256 := by
      have hs : (⟨(leB x n).toArray⟩ : ByteArray).size = n := by show (leB x n).toArray.size = n; simp [leB_len]
      unfold bt
      rw [dif_pos (by omega)]
      show ((((leB x n).toArray[k]'(by simp [leB_len]; omega)).toNat : Int)).toNat = _
      rw [Int.toNat_natCast]
      simp [leB]
    rw [leN, leN_leB x n k (by omega), hb, show 8 * (k + 1) = 8 * k + 8 by omega, Nat.pow_add, Nat.mod_mul, Nat.mul_comm (2 ^ (8 * k)) (_ % _), show (2 : Nat) ^ 8 = 256 from rfl]
theorem and_low (x T : Nat) (hT : T = 256 ∨ T = 65536 ∨ T = 4294967296) (hx : x < 18446744073709551616) : bits .and .u64 (x : Int) ((T : Int) - 1) = ((x % T : Nat) : Int) := by
  rcases hT with rfl | rfl | rfl
  · exact (bits_and_u64_nat x 255 hx (by omega)).trans (congrArg _ (Nat.and_two_pow_sub_one_eq_mod x 8))
  · exact (bits_and_u64_nat x 65535 hx (by omega)).trans (congrArg _ (Nat.and_two_pow_sub_one_eq_mod x 16))
  · exact (bits_and_u64_nat x 4294967295 hx (by omega)).trans (congrArg _ (Nat.and_two_pow_sub_one_eq_mod x 32))

end Go.Proofs.Ytlkbalmkljabhaa
