/-
  The walks of the marks that a law lays into an answer, and of the look for them.
-/
import Derived.Test.YtnimlkobcginjaaRImpl
import Derived.Test.YtnimlkobcginjaaSecEq
import Derived.Deep.RegionWith
namespace Go.Proofs.Ytnimlkobcginjaa
open Go.ChangeShapes Go.WideShapes Go.ChangeAt Go.RowKit Go.PlainAid

def dg (k : Nat) : UInt8 := UInt8.ofNat (48 + k % 10)
/-- The text of a mark. -/
def mtl : Nat → Nat → ByteArray → ByteArray
  | 0, _, o => o
  | f + 1, k, o => if k = 0 then o else mtl f (k / 10) (⟨#[dg k]⟩ ++ o)
def mt (k : Nat) : ByteArray := ⟨#[109]⟩ ++ mtl 20 k ⟨#[]⟩
theorem mtl_end (f : Nat) (o : ByteArray) : mtl f 0 o = o := by cases f <;> simp [mtl]
theorem mtl_more (f k : Nat) (o : ByteArray) (h : 0 < k) : mtl (f + 1) k o = mtl f (k / 10) (⟨#[dg k]⟩ ++ o) := by
  simp only [mtl]; rw [if_neg (by omega)]
theorem digit_string (k : Nat) (N : Nat) (W : World) (hc : W.cell? ⟨N, 0, none⟩ = some (.int .u8 (48 + (k : Int) % 10))) : (convert 22 9 (.slice (some ⟨N, 0, none⟩) 1 1)).run Try.prog W = .ok (.string ⟨#[dg k]⟩) W := by
  have H := run_convert_bytes_back (P := Try.prog) W 22 9 5 ⟨N, 0, none⟩ 1 [dg k] Try.underlying22 Try.underlying5 Try.underlying9 (fun j hj => by
    obtain rfl : j = 0 := by simpa using hj
    simp only [List.getElem_cons_zero, dg, UInt8.toNat_ofNat']
    rw [show (((48 + k % 10) % 2 ^ 8 : Nat) : Int) = 48 + (k : Int) % 10 by omega]
    exact hc)
  exact H

theorem bcell {W w1 : World} (hb : Below W.heap.size W w1) : (∀ b o, b < W.heap.size → w1.cell? ⟨b, o, none⟩ = W.cell? ⟨b, o, none⟩) ∧ (∀ b o, b < W.heap.size → w1.frozen? ⟨b, o, none⟩ = W.frozen? ⟨b, o, none⟩) :=
  ⟨fun b o h => hb.cell (p := ⟨b, o, none⟩) h, fun b o h => hb.frozen (p := ⟨b, o, none⟩) h⟩

/-- The marks of n sections. -/
def marks (n : Nat) : List (Int × ByteArray) := (List.range n).map fun (i : Nat) => (1 + 2 * (i : Int), mt (2 + 2 * i))
theorem marks_len (n : Nat) : (marks n).length = n := by simp [marks]
theorem marks_at (n i : Nat) (h : i < (marks n).length) : (marks n)[i] = (1 + 2 * (i : Int), mt (2 + 2 * i)) := by simp [marks]

end Go.Proofs.Ytnimlkobcginjaa
