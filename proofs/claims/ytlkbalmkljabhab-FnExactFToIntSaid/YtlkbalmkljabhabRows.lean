/-
  No cell of these rows narrows 'for every input' (looked for: loops, veiled, ifaces, maps, wideKeys, modest, calm, conditions, laid).
  DERIVED. THE GIVEN ROWS OF THIS SEAT. 3 by the template 'for every input the law returns true; each argument reads behind the call as it read before'; 0 by the template 'total and deterministic' (their statements: YtlkbalmkljabhabTotals.lean).
  GIVEN WITH THE SEED: the statements are not yours to turn. If you find one false, say at which input.
  Laid BY PROGRAM, IN A SANDBOX (cutbox-rows.mjs): the forced cells as the released guide's own fill.sh prints them over the translation bafcdba563d7691d… (all of the seat's roots in one cut). By AI agents, Wed Nov 11 2026. No macro, syntax, notation, axiom, sorry.
-/
import Derived.Test.YtlkbalmkljabhabChecked
import GoSem.Claim
import GoSem.ClaimJoined
import GoSem.ClaimMapViews
import Derived.JoinedTies
import Derived.KernelRfl
namespace Go.Proofs.Ytlkbalmkljabhab
/- THE CELL 'sum', in the pinned program and in every row, IS THE sha256 OF THE DUMP (.gsa) THAT YtlkbalmkljabhabProg.lean LOADS. Nothing in Lean hashes anything: it is a label: what it is worth is what the hold of that sum in a sandbox is worth. -/
noncomputable def Try.pinned : Pinned := { name := "ytlkbalmkljabhab", sum := "bafcdba563d7691de26c165004a551d236f0a80b2fe63729a31875c60a7f1c92", checked := Try.checked }
namespace Rows
def none {H : Type} : Left H := { results := [], args := [] }

/-- 'laws.FnExactFDiv': WHATEVER THE INPUT: true; the input reads as it did. -/
def fnExactFDivSpec : ChangeSpec := { name := "fnExactFDiv", fn := fun _ => fun
  | [d1, d2, d3] => { results := [.lit (.bool true)], args := [d1, d2, d3] }
  | _ => none }
def fnExactFDivRow : OpenClaim := { program := "ytlkbalmkljabhab", sum := "bafcdba563d7691de26c165004a551d236f0a80b2fe63729a31875c60a7f1c92", func := "loop.example/g00209/laws.FnExactFDiv", spec := "fnExactFDiv", apart := false }
def FnExactFDivSaid : Prop := fnExactFDivRow.holds Try.pinned (OpenSpec.ofChange fnExactFDivSpec)

/-- ITS FALSE NEIGHBOUR: 'it returns false'. Refute it at one input. -/
def fnExactFDivWrong : ChangeSpec := { name := "fnExactFDiv", fn := fun _ => fun
  | [d1, d2, d3] => { results := [.lit (.bool false)], args := [d1, d2, d3] }
  | _ => none }
def FnExactFDivWrongFalsely : Prop := fnExactFDivRow.holds Try.pinned (OpenSpec.ofChange fnExactFDivWrong)

/-- 'laws.FnExactFSqrt': WHATEVER THE INPUT: true; the input reads as it did. -/
def fnExactFSqrtSpec : ChangeSpec := { name := "fnExactFSqrt", fn := fun _ => fun
  | [d1, d2] => { results := [.lit (.bool true)], args := [d1, d2] }
  | _ => none }
def fnExactFSqrtRow : OpenClaim := { program := "ytlkbalmkljabhab", sum := "bafcdba563d7691de26c165004a551d236f0a80b2fe63729a31875c60a7f1c92", func := "loop.example/g00209/laws.FnExactFSqrt", spec := "fnExactFSqrt", inPlace := ["math.sqrt"], apart := false }
def FnExactFSqrtSaid : Prop := fnExactFSqrtRow.holds Try.pinned (OpenSpec.ofChange fnExactFSqrtSpec)

/-- ITS FALSE NEIGHBOUR: 'it returns false'. Refute it at one input. -/
def fnExactFSqrtWrong : ChangeSpec := { name := "fnExactFSqrt", fn := fun _ => fun
  | [d1, d2] => { results := [.lit (.bool false)], args := [d1, d2] }
  | _ => none }
def FnExactFSqrtWrongFalsely : Prop := fnExactFSqrtRow.holds Try.pinned (OpenSpec.ofChange fnExactFSqrtWrong)

/-- 'laws.FnExactFToInt': WHATEVER THE INPUT: true; the input reads as it did. -/
def fnExactFToIntSpec : ChangeSpec := { name := "fnExactFToInt", fn := fun _ => fun
  | [d1, d2, d3, d4] => { results := [.lit (.bool true)], args := [d1, d2, d3, d4] }
  | _ => none }
def fnExactFToIntRow : OpenClaim := { program := "ytlkbalmkljabhab", sum := "bafcdba563d7691de26c165004a551d236f0a80b2fe63729a31875c60a7f1c92", func := "loop.example/g00209/laws.FnExactFToInt", spec := "fnExactFToInt", apart := false }
def FnExactFToIntSaid : Prop := fnExactFToIntRow.holds Try.pinned (OpenSpec.ofChange fnExactFToIntSpec)

/-- ITS FALSE NEIGHBOUR: 'it returns false'. Refute it at one input. -/
def fnExactFToIntWrong : ChangeSpec := { name := "fnExactFToInt", fn := fun _ => fun
  | [d1, d2, d3, d4] => { results := [.lit (.bool false)], args := [d1, d2, d3, d4] }
  | _ => none }
def FnExactFToIntWrongFalsely : Prop := fnExactFToIntRow.holds Try.pinned (OpenSpec.ofChange fnExactFToIntWrong)

/- THE SECOND FORM. 'bulk': how many values and letters a reading holds, each counted each time it is reached (what is shared counts as often as it is met; a slice's spare places count too). A statement '..UptoSaid' is the law's where the arguments, and the package variables that the reading takes, are together of bulk at most 1048576: NARROWER than '..Said'. Prove '..Said' where nothing that the law and all that it calls make is longer than what came in: it says more and counts as full. Else prove '..UptoSaid'. A law counts once. -/
mutual
def uptoBulk {H : Type} : DataW H → Nat
  | .lit (.string bytes) => bytes.length + 1
  | .lit _ => 1
  | .nil => 1
  | .ptr d => uptoBulk d + 1
  | .slice elems spare => uptoBulkAll elems + uptoBulkAll spare + 1
  | .agg parts => uptoBulkAll parts + 1
  | .iface _ d => uptoBulk d + 1
  | .map entries => uptoBulkEntries entries + 1
  | .held _ => 1
def uptoBulkAll {H : Type} : List (DataW H) → Nat
  | [] => 0
  | d :: r => uptoBulk d + uptoBulkAll r
def uptoBulkEntries {H : Type} : List (Lit × DataW H) → Nat
  | [] => 0
  | x :: r => uptoBulkEntry x + uptoBulkEntries r
def uptoBulkEntry {H : Type} : Lit × DataW H → Nat
  | (.string bytes, d) => bytes.length + uptoBulk d + 1
  | (_, d) => uptoBulk d + 1
 end
def uptoSmall : (H : Type) → List (DataW H) → Bool := fun _ ds => decide (uptoBulkAll ds ≤ 1048576)
def OpenSpec.upto (s : _root_.Go.ChangeSpec) : _root_.Go.OpenSpec := { _root_.Go.OpenSpec.ofChange s with cond := some uptoSmall }

/-- 'laws.FnExactFDiv', WHERE WHAT IT READS IS OF BULK AT MOST 1048576: true; the input reads as it did. -/
def fnExactFDivUptoRow : OpenClaim := { program := "ytlkbalmkljabhab", sum := "bafcdba563d7691de26c165004a551d236f0a80b2fe63729a31875c60a7f1c92", func := "loop.example/g00209/laws.FnExactFDiv", spec := "fnExactFDiv", apart := false, narrowed := true }
def FnExactFDivUptoSaid : Prop := fnExactFDivUptoRow.holds Try.pinned (OpenSpec.upto fnExactFDivSpec)

/-- 'laws.FnExactFSqrt', WHERE WHAT IT READS IS OF BULK AT MOST 1048576: true; the input reads as it did. -/
def fnExactFSqrtUptoRow : OpenClaim := { program := "ytlkbalmkljabhab", sum := "bafcdba563d7691de26c165004a551d236f0a80b2fe63729a31875c60a7f1c92", func := "loop.example/g00209/laws.FnExactFSqrt", spec := "fnExactFSqrt", inPlace := ["math.sqrt"], apart := false, narrowed := true }
def FnExactFSqrtUptoSaid : Prop := fnExactFSqrtUptoRow.holds Try.pinned (OpenSpec.upto fnExactFSqrtSpec)

/-- 'laws.FnExactFToInt', WHERE WHAT IT READS IS OF BULK AT MOST 1048576: true; the input reads as it did. -/
def fnExactFToIntUptoRow : OpenClaim := { program := "ytlkbalmkljabhab", sum := "bafcdba563d7691de26c165004a551d236f0a80b2fe63729a31875c60a7f1c92", func := "loop.example/g00209/laws.FnExactFToInt", spec := "fnExactFToInt", apart := false, narrowed := true }
def FnExactFToIntUptoSaid : Prop := fnExactFToIntUptoRow.holds Try.pinned (OpenSpec.upto fnExactFToIntSpec)

end Rows
end Go.Proofs.Ytlkbalmkljabhab
