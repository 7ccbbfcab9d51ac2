/-
  The walks of the specification's functions that tell points in a code.
-/
import Derived.Test.YtljnciclbjcinaaGreatDoorUtf
namespace Go.Proofs.YtljnciclbjcinaaGreatDoor
open Go.ChangeShapes Go.WideShapes Go.ChangeAt Go.RowKit

theorem cells_new (w : World) (l : List UInt8) : ∀ j u, (bv l)[j]? = some u → (w.alloc (byteBlock l)).cell? ((⟨w.heap.size, 0, none⟩ : Addr).add j) = some u := by
  intro j u hj
  unfold byteBlock
  rw [Addr.add_lit, Nat.zero_add, icell_of_block (heap_alloc_new _ _)]
  simpa using hj
theorem bv1 (p : Nat) (h : p < 256) : bv [UInt8.ofNat p] = [Value.int .u8 (p : Int)] := by simp only [bv, List.map, byte_val p h]
/-- What is told of points that are good. -/
def encR (code : Int) (L : List Int) : Value :=
  if L.all (fitC code) = true then .tuple #[.string ⟨(encL code L).toArray⟩, .bool true] else .tuple #[.string ⟨#[]⟩, .bool false]
theorem encR_yes {code : Int} {L : List Int} (h : L.all (fitC code) = true) : encR code L = .tuple #[.string ⟨(encL code L).toArray⟩, .bool true] := by unfold encR; rw [if_pos h]
theorem encR_no {code : Int} {L : List Int} (h : L.all (fitC code) = false) : encR code L = .tuple #[.string ⟨#[]⟩, .bool false] := by unfold encR; rw [if_neg (by rw [h]; simp)]
theorem fit1 (p : Int) : fitC 1 p = true := by simp [fitC]
theorem fit2 (p : Int) : fitC 2 p = true := by simp [fitC]
theorem fit_yes (c p : Int) (h : p ≤ 255) : fitC c p = true := by simp [fitC, h]
theorem fit_no (c p : Int) (h1 : c ≠ 1) (h2 : c ≠ 2) (h : 255 < p) : fitC c p = false := by unfold fitC; exact decide_eq_false (by omega)
theorem encP1 (p : Nat) : encP 1 p = u8b p := by simp [encP]
theorem encP2 (p : Nat) : encP 2 p = u16b p := by simp [encP]
theorem encP3 (c : Int) (p : Nat) (h1 : c ≠ 1) (h2 : c ≠ 2) : encP c p = [.ofNat p] := by simp [encP, h1, h2]
/-- What is known of the points of a good list. -/
def OkAll (L : List Int) : Prop := L.length ≤ 300 ∧ ∀ i (h : i < L.length), 0 ≤ L[i] ∧ L[i] < 1114112 ∧ (L[i] < 55296 ∨ 57344 ≤ L[i])
theorem okAll_of {L : List Int} (h : okL L = true) : OkAll L := by
  obtain ⟨h1, h2⟩ := okL_iff.1 h
  exact ⟨h1, fun i hi => h2 _ (List.getElem_mem hi)⟩
theorem Tryz.infob5 : (Tryz.prog.info? 5).map (fun i => (i.zero, i.size, i.bytes)) = some (some (.int .u8 0), 1, 1) := by kernel_rfl

end Go.Proofs.YtljnciclbjcinaaGreatDoor
