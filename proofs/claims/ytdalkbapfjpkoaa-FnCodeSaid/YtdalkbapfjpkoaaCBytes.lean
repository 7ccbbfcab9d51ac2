/-
  The bytes of instructions: one operand, on the program's side; what both tell of a list.
-/
import Derived.Test.YtdalkbapfjpkoaaCAllB
import Derived.Test.YtdalkbapfjpkoaaUlebBytes
import Derived.Test.YtdalkbapfjpkoaaSleb
import Derived.Test.YtdalkbapfjpkoaaMNum
import Derived.Test.YtdalkbapfjpkoaaQHide
import Derived.Lib.AppendStr
namespace Go.Proofs.Ytdalkbapfjpkoaa
open Go.ChangeShapes Go.WideShapes Go.ChangeAt Go.RowKit

/-- The bytes of A, of a good instruction of kind k. -/
def ob (k a : Int) : List UInt8 :=
  if k = 1 then leB a.toNat 1
  else if k = 2 then ul 10 a.toNat
  else if k = 3 then ul 10 a.toNat
  else if k = 4 then sl 10 a
  else if k = 5 then sl 10 a
  else if k = 6 then leB a.toNat 4
  else []
theorem ob_len (k a : Int) : (ob k a).length ≤ 10 := by
  unfold ob
  repeat' split
  all_goals first | (rw [leB_len]; omega) | exact ul_len 10 _ | exact sl_len 10 _ | simp

def opByte (op : Int) : UInt8 := UInt8.ofNat (op % 256).toNat
theorem opByte_int (op : Int) : ((opByte op).toNat : Int) = op % 256 := by
  unfold opByte; rw [UInt8.toNat_ofNat']; omega
def ib (x : Int × Int) : List UInt8 := opByte x.1 :: ob (shp x.1) x.2
theorem ib_len (x : Int × Int) : (ib x).length ≤ 11 := by have := ob_len (shp x.1) x.2; simp [ib]; omega
def cb (L : List (Int × Int)) : List UInt8 := L.flatMap ib
theorem cb_snoc (L : List (Int × Int)) (k : Nat) (h : k < L.length) : cb (L.take (k + 1)) = cb (L.take k) ++ ib L[k] := by
  unfold cb; rw [List.take_succ_eq_append_getElem h, List.flatMap_append, List.flatMap_cons, List.flatMap_nil, List.append_nil]
theorem cb_len (L : List (Int × Int)) : (cb L).length ≤ 11 * L.length := by
  induction L with
  | nil => simp [cb]
  | cons x r ih => have h := ib_len x; have e : cb (x :: r) = ib x ++ cb r := by simp [cb]
                   rw [e, List.length_append, List.length_cons]; omega
/-- What A is, of a good instruction. -/
theorem may_nat {k a : Int} (hk : k = 1 ∨ k = 2 ∨ k = 3 ∨ k = 6) (h : mayK k a = true) : 0 ≤ a ∧ a ≤ 4294967295 := by
  rcases hk with rfl | rfl | rfl | rfl
  all_goals
    simp [mayK] at h
    omega

end Go.Proofs.Ytdalkbapfjpkoaa
