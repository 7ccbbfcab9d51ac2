/-
  Bytes stored in a memory: impl's side.
-/
import Derived.Test.YthboenlfcolinaaDoorMStore
namespace Go.Proofs.YthboenlfcolinaaDoor
open Go.ChangeShapes Go.WideShapes Go.ChangeAt Go.RowKit

/-- Where a cut of n bytes at a lies. -/
def cutAddr (g a n : Nat) : Addr := if n = 0 then ⟨g, 0, none⟩ else ⟨g, a, none⟩
set_option maxRecDepth 100000 in
theorem sliced_cut (g a n cap len : Nat) (h : a + n ≤ cap) (wx : World) :
    (Instr.slice 71 (.slice (some ⟨g, 0, none⟩) len cap) (some (.int .i64 (a : Int))) (some (.int .i64 ((a : Int) + (n : Int)))) (some (.int .i64 ((a : Int) + (n : Int))))).run Tryd.prog wx = .ok (.slice (some (cutAddr g a n)) n n) wx := by
  rw [run_slice_lhm wx 71 (some ⟨g, 0, none⟩) len cap Tryd.underlying71 .i64 .i64 .i64 (a : Int) ((a : Int) + n) ((a : Int) + n) (by omega) (by omega) (by omega) (by omega)]
  have e : ((a : Int) + (n : Int)).toNat = a + n := by omega
  simp only [e, Int.toNat_natCast]
  simp [go_sem, sliced, cutAddr]
  split <;> rfl

theorem infoU8 : (Tryd.prog.info? 5).map (·.size) = some 1 := by kernel_rfl

end Go.Proofs.YthboenlfcolinaaDoor
