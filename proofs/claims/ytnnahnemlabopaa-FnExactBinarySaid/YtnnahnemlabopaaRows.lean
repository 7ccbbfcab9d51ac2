/-
  No cell of these rows narrows 'for every input' (looked for: loops, veiled, ifaces, maps, wideKeys, modest, calm, conditions, laid).
  DERIVED. THE GIVEN ROWS OF THIS SEAT. 5 by the template 'for every input the law returns true; each argument reads behind the call as it read before'; 0 by the template 'total and deterministic' (their statements: YtnnahnemlabopaaTotals.lean).
  GIVEN WITH THE SEED: the statements are not yours to turn. If you find one false, say at which input.
  Laid BY PROGRAM, IN A SANDBOX (cutbox-rows.mjs): the forced cells as the released guide's own fill.sh prints them over the translation 144f1f669323d37b… (all of the seat's roots in one cut). By AI agents, Wed Nov 11 2026. No macro, syntax, notation, axiom, sorry.
-/
import Derived.Test.YtnnahnemlabopaaChecked
import GoSem.Claim
import GoSem.ClaimJoined
import GoSem.ClaimMapViews
import Derived.JoinedTies
import Derived.KernelRfl
namespace Go.Proofs.Ytnnahnemlabopaa
/- THE CELL 'sum', in the pinned program and in every row, IS THE sha256 OF THE DUMP (.gsa) THAT YtnnahnemlabopaaProg.lean LOADS. Nothing in Lean hashes anything: it is a label: what it is worth is what the hold of that sum in a sandbox is worth. -/
noncomputable def Try.pinned : Pinned := { name := "ytnnahnemlabopaa", sum := "144f1f669323d37b6f7096ff8fd1763adfb6e25bc9786c247404187ba0dbae11", checked := Try.checked }
namespace Rows
def none {H : Type} : Left H := { results := [], args := [] }

/-- 'laws.FnExactBinary': WHATEVER THE INPUT: true; the input reads as it did. -/
def fnExactBinarySpec : ChangeSpec := { name := "fnExactBinary", fn := fun _ => fun
  | [d1, d2, d3, d4] => { results := [.lit (.bool true)], args := [d1, d2, d3, d4] }
  | _ => none }
def fnExactBinaryRow : OpenClaim := { program := "ytnnahnemlabopaa", sum := "144f1f669323d37b6f7096ff8fd1763adfb6e25bc9786c247404187ba0dbae11", func := "loop.example/g00209/laws.FnExactBinary", spec := "fnExactBinary", unfollowed := true, recurses := true, apart := false }
def FnExactBinarySaid : Prop := fnExactBinaryRow.holds Try.pinned (OpenSpec.ofChange fnExactBinarySpec)

/-- ITS FALSE NEIGHBOUR: 'it returns false'. Refute it at one input. -/
def fnExactBinaryWrong : ChangeSpec := { name := "fnExactBinary", fn := fun _ => fun
  | [d1, d2, d3, d4] => { results := [.lit (.bool false)], args := [d1, d2, d3, d4] }
  | _ => none }
def FnExactBinaryWrongFalsely : Prop := fnExactBinaryRow.holds Try.pinned (OpenSpec.ofChange fnExactBinaryWrong)

/-- 'laws.FnExactSignedOf': WHATEVER THE INPUT: true; the input reads as it did. -/
def fnExactSignedOfSpec : ChangeSpec := { name := "fnExactSignedOf", fn := fun _ => fun
  | [d1, d2] => { results := [.lit (.bool true)], args := [d1, d2] }
  | _ => none }
def fnExactSignedOfRow : OpenClaim := { program := "ytnnahnemlabopaa", sum := "144f1f669323d37b6f7096ff8fd1763adfb6e25bc9786c247404187ba0dbae11", func := "loop.example/g00209/laws.FnExactSignedOf", spec := "fnExactSignedOf", apart := false }
def FnExactSignedOfSaid : Prop := fnExactSignedOfRow.holds Try.pinned (OpenSpec.ofChange fnExactSignedOfSpec)

/-- ITS FALSE NEIGHBOUR: 'it returns false'. Refute it at one input. -/
def fnExactSignedOfWrong : ChangeSpec := { name := "fnExactSignedOf", fn := fun _ => fun
  | [d1, d2] => { results := [.lit (.bool false)], args := [d1, d2] }
  | _ => none }
def FnExactSignedOfWrongFalsely : Prop := fnExactSignedOfRow.holds Try.pinned (OpenSpec.ofChange fnExactSignedOfWrong)

/-- 'laws.FnExactBitsOf': WHATEVER THE INPUT: true; the input reads as it did. -/
def fnExactBitsOfSpec : ChangeSpec := { name := "fnExactBitsOf", fn := fun _ => fun
  | [d1, d2] => { results := [.lit (.bool true)], args := [d1, d2] }
  | _ => none }
def fnExactBitsOfRow : OpenClaim := { program := "ytnnahnemlabopaa", sum := "144f1f669323d37b6f7096ff8fd1763adfb6e25bc9786c247404187ba0dbae11", func := "loop.example/g00209/laws.FnExactBitsOf", spec := "fnExactBitsOf", apart := false }
def FnExactBitsOfSaid : Prop := fnExactBitsOfRow.holds Try.pinned (OpenSpec.ofChange fnExactBitsOfSpec)

/-- ITS FALSE NEIGHBOUR: 'it returns false'. Refute it at one input. -/
def fnExactBitsOfWrong : ChangeSpec := { name := "fnExactBitsOf", fn := fun _ => fun
  | [d1, d2] => { results := [.lit (.bool false)], args := [d1, d2] }
  | _ => none }
def FnExactBitsOfWrongFalsely : Prop := fnExactBitsOfRow.holds Try.pinned (OpenSpec.ofChange fnExactBitsOfWrong)

/-- 'laws.FnExactWrapTo32': WHATEVER THE INPUT: true; the input reads as it did. -/
def fnExactWrapTo32Spec : ChangeSpec := { name := "fnExactWrapTo32", fn := fun _ => fun
  | [d] => { results := [.lit (.bool true)], args := [d] }
  | _ => none }
def fnExactWrapTo32Row : OpenClaim := { program := "ytnnahnemlabopaa", sum := "144f1f669323d37b6f7096ff8fd1763adfb6e25bc9786c247404187ba0dbae11", func := "loop.example/g00209/laws.FnExactWrapTo32", spec := "fnExactWrapTo32", apart := false }
def FnExactWrapTo32Said : Prop := fnExactWrapTo32Row.holds Try.pinned (OpenSpec.ofChange fnExactWrapTo32Spec)

/-- ITS FALSE NEIGHBOUR: 'it returns false'. Refute it at one input. -/
def fnExactWrapTo32Wrong : ChangeSpec := { name := "fnExactWrapTo32", fn := fun _ => fun
  | [d] => { results := [.lit (.bool false)], args := [d] }
  | _ => none }
def FnExactWrapTo32WrongFalsely : Prop := fnExactWrapTo32Row.holds Try.pinned (OpenSpec.ofChange fnExactWrapTo32Wrong)

/-- 'laws.FnExactExtend32': WHATEVER THE INPUT: true; the input reads as it did. -/
def fnExactExtend32Spec : ChangeSpec := { name := "fnExactExtend32", fn := fun _ => fun
  | [d1, d2] => { results := [.lit (.bool true)], args := [d1, d2] }
  | _ => none }
def fnExactExtend32Row : OpenClaim := { program := "ytnnahnemlabopaa", sum := "144f1f669323d37b6f7096ff8fd1763adfb6e25bc9786c247404187ba0dbae11", func := "loop.example/g00209/laws.FnExactExtend32", spec := "fnExactExtend32", apart := false }
def FnExactExtend32Said : Prop := fnExactExtend32Row.holds Try.pinned (OpenSpec.ofChange fnExactExtend32Spec)

/-- ITS FALSE NEIGHBOUR: 'it returns false'. Refute it at one input. -/
def fnExactExtend32Wrong : ChangeSpec := { name := "fnExactExtend32", fn := fun _ => fun
  | [d1, d2] => { results := [.lit (.bool false)], args := [d1, d2] }
  | _ => none }
def FnExactExtend32WrongFalsely : Prop := fnExactExtend32Row.holds Try.pinned (OpenSpec.ofChange fnExactExtend32Wrong)

/- THE SECOND FORM. 'bulk': how many values and letters a reading holds, each counted each time it is reached (what is shared counts as often as it is met; a slice's spare places count too). A statement '..UptoSaid' is the law's where the arguments, and the package variables that the reading takes, are together of bulk at most 1048576: NARROWER than '..Said'. Prove '..Said' where nothing that the law and all that it calls make is longer than what came in: it says more and counts as full. Else prove '..UptoSaid'. A law counts once. -/
mutual
def uptoBulk {H : Type} : DataW H → Nat
  | .lit (.string bytes) => bytes.length + 1
  | .lit _ => 1
  | .nil => 1
  | .ptr d => uptoBulk d + 1
  | .slice elems spare => uptoBulkAll elems + uptoBulkAll spare + 1
  | .agg parts => uptoBulkAll parts + 1
  | .iface _ d => uptoBulk d + 1
  | .map entries => uptoBulkEntries entries + 1
  | .held _ => 1
def uptoBulkAll {H : Type} : List (DataW H) → Nat
  | [] => 0
  | d :: r => uptoBulk d + uptoBulkAll r
def uptoBulkEntries {H : Type} : List (Lit × DataW H) → Nat
  | [] => 0
  | x :: r => uptoBulkEntry x + uptoBulkEntries r
def uptoBulkEntry {H : Type} : Lit × DataW H → Nat
  | (.string bytes, d) => bytes.length + uptoBulk d + 1
  | (_, d) => uptoBulk d + 1
 end
def uptoSmall : (H : Type) → List (DataW H) → Bool := fun _ ds => decide (uptoBulkAll ds ≤ 1048576)
def OpenSpec.upto (s : _root_.Go.ChangeSpec) : _root_.Go.OpenSpec := { _root_.Go.OpenSpec.ofChange s with cond := some uptoSmall }

/-- 'laws.FnExactBinary', WHERE WHAT IT READS IS OF BULK AT MOST 1048576: true; the input reads as it did. -/
def fnExactBinaryUptoRow : OpenClaim := { program := "ytnnahnemlabopaa", sum := "144f1f669323d37b6f7096ff8fd1763adfb6e25bc9786c247404187ba0dbae11", func := "loop.example/g00209/laws.FnExactBinary", spec := "fnExactBinary", unfollowed := true, recurses := true, apart := false, narrowed := true }
def FnExactBinaryUptoSaid : Prop := fnExactBinaryUptoRow.holds Try.pinned (OpenSpec.upto fnExactBinarySpec)

/-- 'laws.FnExactSignedOf', WHERE WHAT IT READS IS OF BULK AT MOST 1048576: true; the input reads as it did. -/
def fnExactSignedOfUptoRow : OpenClaim := { program := "ytnnahnemlabopaa", sum := "144f1f669323d37b6f7096ff8fd1763adfb6e25bc9786c247404187ba0dbae11", func := "loop.example/g00209/laws.FnExactSignedOf", spec := "fnExactSignedOf", apart := false, narrowed := true }
def FnExactSignedOfUptoSaid : Prop := fnExactSignedOfUptoRow.holds Try.pinned (OpenSpec.upto fnExactSignedOfSpec)

/-- 'laws.FnExactBitsOf', WHERE WHAT IT READS IS OF BULK AT MOST 1048576: true; the input reads as it did. -/
def fnExactBitsOfUptoRow : OpenClaim := { program := "ytnnahnemlabopaa", sum := "144f1f669323d37b6f7096ff8fd1763adfb6e25bc9786c247404187ba0dbae11", func := "loop.example/g00209/laws.FnExactBitsOf", spec := "fnExactBitsOf", apart := false, narrowed := true }
def FnExactBitsOfUptoSaid : Prop := fnExactBitsOfUptoRow.holds Try.pinned (OpenSpec.upto fnExactBitsOfSpec)

/-- 'laws.FnExactWrapTo32', WHERE WHAT IT READS IS OF BULK AT MOST 1048576: true; the input reads as it did. -/
def fnExactWrapTo32UptoRow : OpenClaim := { program := "ytnnahnemlabopaa", sum := "144f1f669323d37b6f7096ff8fd1763adfb6e25bc9786c247404187ba0dbae11", func := "loop.example/g00209/laws.FnExactWrapTo32", spec := "fnExactWrapTo32", apart := false, narrowed := true }
def FnExactWrapTo32UptoSaid : Prop := fnExactWrapTo32UptoRow.holds Try.pinned (OpenSpec.upto fnExactWrapTo32Spec)

/-- 'laws.FnExactExtend32', WHERE WHAT IT READS IS OF BULK AT MOST 1048576: true; the input reads as it did. -/
def fnExactExtend32UptoRow : OpenClaim := { program := "ytnnahnemlabopaa", sum := "144f1f669323d37b6f7096ff8fd1763adfb6e25bc9786c247404187ba0dbae11", func := "loop.example/g00209/laws.FnExactExtend32", spec := "fnExactExtend32", apart := false, narrowed := true }
def FnExactExtend32UptoSaid : Prop := fnExactExtend32UptoRow.holds Try.pinned (OpenSpec.upto fnExactExtend32Spec)

end Rows
end Go.Proofs.Ytnnahnemlabopaa
