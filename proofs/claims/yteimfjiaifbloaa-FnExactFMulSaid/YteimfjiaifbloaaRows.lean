/-
  No cell of these rows narrows 'for every input' (looked for: loops, veiled, ifaces, maps, wideKeys, modest, calm, conditions, laid).
  DERIVED. THE GIVEN ROWS OF THIS SEAT. 6 by the template 'for every input the law returns true; each argument reads behind the call as it read before'; 0 by the template 'total and deterministic' (their statements: YteimfjiaifbloaaTotals.lean).
  GIVEN WITH THE SEED: the statements are not yours to turn. If you find one false, say at which input.
  Laid BY PROGRAM, IN A SANDBOX (cutbox-rows.mjs): the forced cells as the released guide's own fill.sh prints them over the translation 666aa5d95d2649dc… (all of the seat's roots in one cut). By AI agents, Wed Nov 11 2026. No macro, syntax, notation, axiom, sorry.
-/
import Derived.Test.YteimfjiaifbloaaChecked
import GoSem.Claim
import GoSem.ClaimJoined
import GoSem.ClaimMapViews
import Derived.JoinedTies
import Derived.KernelRfl
namespace Go.Proofs.Yteimfjiaifbloaa
/- THE CELL 'sum', in the pinned program and in every row, IS THE sha256 OF THE DUMP (.gsa) THAT YteimfjiaifbloaaProg.lean LOADS. Nothing in Lean hashes anything: it is a label: what it is worth is what the hold of that sum in a sandbox is worth. -/
noncomputable def Try.pinned : Pinned := { name := "yteimfjiaifbloaa", sum := "666aa5d95d2649dc274c4201db00c89b3cc2ded182f81b3d33fafff5b5a83fc6", checked := Try.checked }
namespace Rows
def none {H : Type} : Left H := { results := [], args := [] }

/-- 'laws.FnExactFloatParts': WHATEVER THE INPUT: true; the input reads as it did. -/
def fnExactFloatPartsSpec : ChangeSpec := { name := "fnExactFloatParts", fn := fun _ => fun
  | [d1, d2] => { results := [.lit (.bool true)], args := [d1, d2] }
  | _ => none }
def fnExactFloatPartsRow : OpenClaim := { program := "yteimfjiaifbloaa", sum := "666aa5d95d2649dc274c4201db00c89b3cc2ded182f81b3d33fafff5b5a83fc6", func := "loop.example/g00209/laws.FnExactFloatParts", spec := "fnExactFloatParts", apart := false }
def FnExactFloatPartsSaid : Prop := fnExactFloatPartsRow.holds Try.pinned (OpenSpec.ofChange fnExactFloatPartsSpec)

/-- ITS FALSE NEIGHBOUR: 'it returns false'. Refute it at one input. -/
def fnExactFloatPartsWrong : ChangeSpec := { name := "fnExactFloatParts", fn := fun _ => fun
  | [d1, d2] => { results := [.lit (.bool false)], args := [d1, d2] }
  | _ => none }
def FnExactFloatPartsWrongFalsely : Prop := fnExactFloatPartsRow.holds Try.pinned (OpenSpec.ofChange fnExactFloatPartsWrong)

/-- 'laws.FnExactRoundFloat': WHATEVER THE INPUT: true; the input reads as it did. -/
def fnExactRoundFloatSpec : ChangeSpec := { name := "fnExactRoundFloat", fn := fun _ => fun
  | [d1, d2, d3, d4, d5] => { results := [.lit (.bool true)], args := [d1, d2, d3, d4, d5] }
  | _ => none }
def fnExactRoundFloatRow : OpenClaim := { program := "yteimfjiaifbloaa", sum := "666aa5d95d2649dc274c4201db00c89b3cc2ded182f81b3d33fafff5b5a83fc6", func := "loop.example/g00209/laws.FnExactRoundFloat", spec := "fnExactRoundFloat", apart := false }
def FnExactRoundFloatSaid : Prop := fnExactRoundFloatRow.holds Try.pinned (OpenSpec.ofChange fnExactRoundFloatSpec)

/-- ITS FALSE NEIGHBOUR: 'it returns false'. Refute it at one input. -/
def fnExactRoundFloatWrong : ChangeSpec := { name := "fnExactRoundFloat", fn := fun _ => fun
  | [d1, d2, d3, d4, d5] => { results := [.lit (.bool false)], args := [d1, d2, d3, d4, d5] }
  | _ => none }
def FnExactRoundFloatWrongFalsely : Prop := fnExactRoundFloatRow.holds Try.pinned (OpenSpec.ofChange fnExactRoundFloatWrong)

/-- 'laws.FnExactFAdd': WHATEVER THE INPUT: true; the input reads as it did. -/
def fnExactFAddSpec : ChangeSpec := { name := "fnExactFAdd", fn := fun _ => fun
  | [d1, d2, d3] => { results := [.lit (.bool true)], args := [d1, d2, d3] }
  | _ => none }
def fnExactFAddRow : OpenClaim := { program := "yteimfjiaifbloaa", sum := "666aa5d95d2649dc274c4201db00c89b3cc2ded182f81b3d33fafff5b5a83fc6", func := "loop.example/g00209/laws.FnExactFAdd", spec := "fnExactFAdd", recurses := true, apart := false }
def FnExactFAddSaid : Prop := fnExactFAddRow.holds Try.pinned (OpenSpec.ofChange fnExactFAddSpec)

/-- ITS FALSE NEIGHBOUR: 'it returns false'. Refute it at one input. -/
def fnExactFAddWrong : ChangeSpec := { name := "fnExactFAdd", fn := fun _ => fun
  | [d1, d2, d3] => { results := [.lit (.bool false)], args := [d1, d2, d3] }
  | _ => none }
def FnExactFAddWrongFalsely : Prop := fnExactFAddRow.holds Try.pinned (OpenSpec.ofChange fnExactFAddWrong)

/-- 'laws.FnExactFSub': WHATEVER THE INPUT: true; the input reads as it did. -/
def fnExactFSubSpec : ChangeSpec := { name := "fnExactFSub", fn := fun _ => fun
  | [d1, d2, d3] => { results := [.lit (.bool true)], args := [d1, d2, d3] }
  | _ => none }
def fnExactFSubRow : OpenClaim := { program := "yteimfjiaifbloaa", sum := "666aa5d95d2649dc274c4201db00c89b3cc2ded182f81b3d33fafff5b5a83fc6", func := "loop.example/g00209/laws.FnExactFSub", spec := "fnExactFSub", recurses := true, apart := false }
def FnExactFSubSaid : Prop := fnExactFSubRow.holds Try.pinned (OpenSpec.ofChange fnExactFSubSpec)

/-- ITS FALSE NEIGHBOUR: 'it returns false'. Refute it at one input. -/
def fnExactFSubWrong : ChangeSpec := { name := "fnExactFSub", fn := fun _ => fun
  | [d1, d2, d3] => { results := [.lit (.bool false)], args := [d1, d2, d3] }
  | _ => none }
def FnExactFSubWrongFalsely : Prop := fnExactFSubRow.holds Try.pinned (OpenSpec.ofChange fnExactFSubWrong)

/-- 'laws.FnExactFMul': WHATEVER THE INPUT: true; the input reads as it did. -/
def fnExactFMulSpec : ChangeSpec := { name := "fnExactFMul", fn := fun _ => fun
  | [d1, d2, d3] => { results := [.lit (.bool true)], args := [d1, d2, d3] }
  | _ => none }
def fnExactFMulRow : OpenClaim := { program := "yteimfjiaifbloaa", sum := "666aa5d95d2649dc274c4201db00c89b3cc2ded182f81b3d33fafff5b5a83fc6", func := "loop.example/g00209/laws.FnExactFMul", spec := "fnExactFMul", apart := false }
def FnExactFMulSaid : Prop := fnExactFMulRow.holds Try.pinned (OpenSpec.ofChange fnExactFMulSpec)

/-- ITS FALSE NEIGHBOUR: 'it returns false'. Refute it at one input. -/
def fnExactFMulWrong : ChangeSpec := { name := "fnExactFMul", fn := fun _ => fun
  | [d1, d2, d3] => { results := [.lit (.bool false)], args := [d1, d2, d3] }
  | _ => none }
def FnExactFMulWrongFalsely : Prop := fnExactFMulRow.holds Try.pinned (OpenSpec.ofChange fnExactFMulWrong)

/-- 'laws.FnExactFDiv': WHATEVER THE INPUT: true; the input reads as it did. -/
def fnExactFDivSpec : ChangeSpec := { name := "fnExactFDiv", fn := fun _ => fun
  | [d1, d2, d3] => { results := [.lit (.bool true)], args := [d1, d2, d3] }
  | _ => none }
def fnExactFDivRow : OpenClaim := { program := "yteimfjiaifbloaa", sum := "666aa5d95d2649dc274c4201db00c89b3cc2ded182f81b3d33fafff5b5a83fc6", func := "loop.example/g00209/laws.FnExactFDiv", spec := "fnExactFDiv", apart := false }
def FnExactFDivSaid : Prop := fnExactFDivRow.holds Try.pinned (OpenSpec.ofChange fnExactFDivSpec)

/-- ITS FALSE NEIGHBOUR: 'it returns false'. Refute it at one input. -/
def fnExactFDivWrong : ChangeSpec := { name := "fnExactFDiv", fn := fun _ => fun
  | [d1, d2, d3] => { results := [.lit (.bool false)], args := [d1, d2, d3] }
  | _ => none }
def FnExactFDivWrongFalsely : Prop := fnExactFDivRow.holds Try.pinned (OpenSpec.ofChange fnExactFDivWrong)

/- THE SECOND FORM. 'bulk': how many values and letters a reading holds, each counted each time it is reached (what is shared counts as often as it is met; a slice's spare places count too). A statement '..UptoSaid' is the law's where the arguments, and the package variables that the reading takes, are together of bulk at most 1048576: NARROWER than '..Said'. Prove '..Said' where nothing that the law and all that it calls make is longer than what came in: it says more and counts as full. Else prove '..UptoSaid'. A law counts once. -/
mutual
def uptoBulk {H : Type} : DataW H → Nat
  | .lit (.string bytes) => bytes.length + 1
  | .lit _ => 1
  | .nil => 1
  | .ptr d => uptoBulk d + 1
  | .slice elems spare => uptoBulkAll elems + uptoBulkAll spare + 1
  | .agg parts => uptoBulkAll parts + 1
  | .iface _ d => uptoBulk d + 1
  | .map entries => uptoBulkEntries entries + 1
  | .held _ => 1
def uptoBulkAll {H : Type} : List (DataW H) → Nat
  | [] => 0
  | d :: r => uptoBulk d + uptoBulkAll r
def uptoBulkEntries {H : Type} : List (Lit × DataW H) → Nat
  | [] => 0
  | x :: r => uptoBulkEntry x + uptoBulkEntries r
def uptoBulkEntry {H : Type} : Lit × DataW H → Nat
  | (.string bytes, d) => bytes.length + uptoBulk d + 1
  | (_, d) => uptoBulk d + 1
 end
def uptoSmall : (H : Type) → List (DataW H) → Bool := fun _ ds => decide (uptoBulkAll ds ≤ 1048576)
def OpenSpec.upto (s : _root_.Go.ChangeSpec) : _root_.Go.OpenSpec := { _root_.Go.OpenSpec.ofChange s with cond := some uptoSmall }

/-- 'laws.FnExactFloatParts', WHERE WHAT IT READS IS OF BULK AT MOST 1048576: true; the input reads as it did. -/
def fnExactFloatPartsUptoRow : OpenClaim := { program := "yteimfjiaifbloaa", sum := "666aa5d95d2649dc274c4201db00c89b3cc2ded182f81b3d33fafff5b5a83fc6", func := "loop.example/g00209/laws.FnExactFloatParts", spec := "fnExactFloatParts", apart := false, narrowed := true }
def FnExactFloatPartsUptoSaid : Prop := fnExactFloatPartsUptoRow.holds Try.pinned (OpenSpec.upto fnExactFloatPartsSpec)

/-- 'laws.FnExactRoundFloat', WHERE WHAT IT READS IS OF BULK AT MOST 1048576: true; the input reads as it did. -/
def fnExactRoundFloatUptoRow : OpenClaim := { program := "yteimfjiaifbloaa", sum := "666aa5d95d2649dc274c4201db00c89b3cc2ded182f81b3d33fafff5b5a83fc6", func := "loop.example/g00209/laws.FnExactRoundFloat", spec := "fnExactRoundFloat", apart := false, narrowed := true }
def FnExactRoundFloatUptoSaid : Prop := fnExactRoundFloatUptoRow.holds Try.pinned (OpenSpec.upto fnExactRoundFloatSpec)

/-- 'laws.FnExactFAdd', WHERE WHAT IT READS IS OF BULK AT MOST 1048576: true; the input reads as it did. -/
def fnExactFAddUptoRow : OpenClaim := { program := "yteimfjiaifbloaa", sum := "666aa5d95d2649dc274c4201db00c89b3cc2ded182f81b3d33fafff5b5a83fc6", func := "loop.example/g00209/laws.FnExactFAdd", spec := "fnExactFAdd", recurses := true, apart := false, narrowed := true }
def FnExactFAddUptoSaid : Prop := fnExactFAddUptoRow.holds Try.pinned (OpenSpec.upto fnExactFAddSpec)

/-- 'laws.FnExactFSub', WHERE WHAT IT READS IS OF BULK AT MOST 1048576: true; the input reads as it did. -/
def fnExactFSubUptoRow : OpenClaim := { program := "yteimfjiaifbloaa", sum := "666aa5d95d2649dc274c4201db00c89b3cc2ded182f81b3d33fafff5b5a83fc6", func := "loop.example/g00209/laws.FnExactFSub", spec := "fnExactFSub", recurses := true, apart := false, narrowed := true }
def FnExactFSubUptoSaid : Prop := fnExactFSubUptoRow.holds Try.pinned (OpenSpec.upto fnExactFSubSpec)

/-- 'laws.FnExactFMul', WHERE WHAT IT READS IS OF BULK AT MOST 1048576: true; the input reads as it did. -/
def fnExactFMulUptoRow : OpenClaim := { program := "yteimfjiaifbloaa", sum := "666aa5d95d2649dc274c4201db00c89b3cc2ded182f81b3d33fafff5b5a83fc6", func := "loop.example/g00209/laws.FnExactFMul", spec := "fnExactFMul", apart := false, narrowed := true }
def FnExactFMulUptoSaid : Prop := fnExactFMulUptoRow.holds Try.pinned (OpenSpec.upto fnExactFMulSpec)

/-- 'laws.FnExactFDiv', WHERE WHAT IT READS IS OF BULK AT MOST 1048576: true; the input reads as it did. -/
def fnExactFDivUptoRow : OpenClaim := { program := "yteimfjiaifbloaa", sum := "666aa5d95d2649dc274c4201db00c89b3cc2ded182f81b3d33fafff5b5a83fc6", func := "loop.example/g00209/laws.FnExactFDiv", spec := "fnExactFDiv", apart := false, narrowed := true }
def FnExactFDivUptoSaid : Prop := fnExactFDivUptoRow.holds Try.pinned (OpenSpec.upto fnExactFDivSpec)

end Rows
end Go.Proofs.Yteimfjiaifbloaa
