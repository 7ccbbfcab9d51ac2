/-
  No cell of these rows narrows 'for every input' (looked for: loops, veiled, ifaces, maps, wideKeys, modest, calm, conditions, laid).
  DERIVED. THE GIVEN ROWS OF THIS SEAT. 5 by the template 'for every input the law returns true; each argument reads behind the call as it read before'; 0 by the template 'total and deterministic' (their statements: YtnimlkobcginjaaTotals.lean).
  GIVEN WITH THE SEED: the statements are not yours to turn. If you find one false, say at which input.
  Laid BY PROGRAM, IN A SANDBOX (cutbox-rows.mjs): the forced cells as the released guide's own fill.sh prints them over the translation 9ec64b159362a3d8… (all of the seat's roots in one cut). By AI agents, Wed Nov 11 2026. No macro, syntax, notation, axiom, sorry.
-/
import Derived.Test.YtnimlkobcginjaaChecked
import GoSem.Claim
import GoSem.ClaimJoined
import GoSem.ClaimMapViews
import Derived.JoinedTies
import Derived.KernelRfl
namespace Go.Proofs.Ytnimlkobcginjaa
/- THE CELL 'sum', in the pinned program and in every row, IS THE sha256 OF THE DUMP (.gsa) THAT YtnimlkobcginjaaProg.lean LOADS. Nothing in Lean hashes anything: it is a label: what it is worth is what the hold of that sum in a sandbox is worth. -/
noncomputable def Try.pinned : Pinned := { name := "ytnimlkobcginjaa", sum := "9ec64b159362a3d8f676c89e1a396fc16052651e9a7fcd1347ccf3bba2f12fbb", checked := Try.checked }
namespace Rows
def none {H : Type} : Left H := { results := [], args := [] }

/-- 'laws.FnLebs': WHATEVER THE INPUT: true; the input reads as it did. -/
def fnLebsSpec : ChangeSpec := { name := "fnLebs", fn := fun _ => fun
  | [d1, d2] => { results := [.lit (.bool true)], args := [d1, d2] }
  | _ => none }
def fnLebsRow : OpenClaim := { program := "ytnimlkobcginjaa", sum := "9ec64b159362a3d8f676c89e1a396fc16052651e9a7fcd1347ccf3bba2f12fbb", func := "loop.example/g00209/laws.FnLebs", spec := "fnLebs", apart := false }
def FnLebsSaid : Prop := fnLebsRow.holds Try.pinned (OpenSpec.ofChange fnLebsSpec)

/-- ITS FALSE NEIGHBOUR: 'it returns false'. Refute it at one input. -/
def fnLebsWrong : ChangeSpec := { name := "fnLebs", fn := fun _ => fun
  | [d1, d2] => { results := [.lit (.bool false)], args := [d1, d2] }
  | _ => none }
def FnLebsWrongFalsely : Prop := fnLebsRow.holds Try.pinned (OpenSpec.ofChange fnLebsWrong)

/-- 'laws.FnSections': WHATEVER THE INPUT: true; the input reads as it did. -/
def fnSectionsSpec : ChangeSpec := { name := "fnSections", fn := fun _ => fun
  | [d1, d2] => { results := [.lit (.bool true)], args := [d1, d2] }
  | _ => none }
def fnSectionsRow : OpenClaim := { program := "ytnimlkobcginjaa", sum := "9ec64b159362a3d8f676c89e1a396fc16052651e9a7fcd1347ccf3bba2f12fbb", func := "loop.example/g00209/laws.FnSections", spec := "fnSections", apart := false }
def FnSectionsSaid : Prop := fnSectionsRow.holds Try.pinned (OpenSpec.ofChange fnSectionsSpec)

/-- ITS FALSE NEIGHBOUR: 'it returns false'. Refute it at one input. -/
def fnSectionsWrong : ChangeSpec := { name := "fnSections", fn := fun _ => fun
  | [d1, d2] => { results := [.lit (.bool false)], args := [d1, d2] }
  | _ => none }
def FnSectionsWrongFalsely : Prop := fnSectionsRow.holds Try.pinned (OpenSpec.ofChange fnSectionsWrong)

/-- 'laws.FnCompared': WHATEVER THE INPUT: true; the input reads as it did. -/
def fnComparedSpec : ChangeSpec := { name := "fnCompared", fn := fun _ => fun
  | [d] => { results := [.lit (.bool true)], args := [d] }
  | _ => none }
def fnComparedRow : OpenClaim := { program := "ytnimlkobcginjaa", sum := "9ec64b159362a3d8f676c89e1a396fc16052651e9a7fcd1347ccf3bba2f12fbb", func := "loop.example/g00209/laws.FnCompared", spec := "fnCompared", apart := false }
def FnComparedSaid : Prop := fnComparedRow.holds Try.pinned (OpenSpec.ofChange fnComparedSpec)

/-- ITS FALSE NEIGHBOUR: 'it returns false'. Refute it at one input. -/
def fnComparedWrong : ChangeSpec := { name := "fnCompared", fn := fun _ => fun
  | [d] => { results := [.lit (.bool false)], args := [d] }
  | _ => none }
def FnComparedWrongFalsely : Prop := fnComparedRow.holds Try.pinned (OpenSpec.ofChange fnComparedWrong)

/-- 'laws.FnWhole': WHATEVER THE INPUT: true; the input reads as it did. -/
def fnWholeSpec : ChangeSpec := { name := "fnWhole", fn := fun _ => fun
  | [d1, d2] => { results := [.lit (.bool true)], args := [d1, d2] }
  | _ => none }
def fnWholeRow : OpenClaim := { program := "ytnimlkobcginjaa", sum := "9ec64b159362a3d8f676c89e1a396fc16052651e9a7fcd1347ccf3bba2f12fbb", func := "loop.example/g00209/laws.FnWhole", spec := "fnWhole", apart := false }
def FnWholeSaid : Prop := fnWholeRow.holds Try.pinned (OpenSpec.ofChange fnWholeSpec)

/-- ITS FALSE NEIGHBOUR: 'it returns false'. Refute it at one input. -/
def fnWholeWrong : ChangeSpec := { name := "fnWhole", fn := fun _ => fun
  | [d1, d2] => { results := [.lit (.bool false)], args := [d1, d2] }
  | _ => none }
def FnWholeWrongFalsely : Prop := fnWholeRow.holds Try.pinned (OpenSpec.ofChange fnWholeWrong)

/-- 'laws.FnConverted': WHATEVER THE INPUT: true; the input reads as it did. -/
def fnConvertedSpec : ChangeSpec := { name := "fnConverted", fn := fun _ => fun
  | [d] => { results := [.lit (.bool true)], args := [d] }
  | _ => none }
def fnConvertedRow : OpenClaim := { program := "ytnimlkobcginjaa", sum := "9ec64b159362a3d8f676c89e1a396fc16052651e9a7fcd1347ccf3bba2f12fbb", func := "loop.example/g00209/laws.FnConverted", spec := "fnConverted", apart := false }
def FnConvertedSaid : Prop := fnConvertedRow.holds Try.pinned (OpenSpec.ofChange fnConvertedSpec)

/-- ITS FALSE NEIGHBOUR: 'it returns false'. Refute it at one input. -/
def fnConvertedWrong : ChangeSpec := { name := "fnConverted", fn := fun _ => fun
  | [d] => { results := [.lit (.bool false)], args := [d] }
  | _ => none }
def FnConvertedWrongFalsely : Prop := fnConvertedRow.holds Try.pinned (OpenSpec.ofChange fnConvertedWrong)

/- THE SECOND FORM. 'bulk': how many values and letters a reading holds, each counted each time it is reached (what is shared counts as often as it is met; a slice's spare places count too). A statement '..UptoSaid' is the law's where the arguments, and the package variables that the reading takes, are together of bulk at most 1048576: NARROWER than '..Said'. Prove '..Said' where nothing that the law and all that it calls make is longer than what came in: it says more and counts as full. Else prove '..UptoSaid'. A law counts once. -/
mutual
def uptoBulk {H : Type} : DataW H → Nat
  | .lit (.string bytes) => bytes.length + 1
  | .lit _ => 1
  | .nil => 1
  | .ptr d => uptoBulk d + 1
  | .slice elems spare => uptoBulkAll elems + uptoBulkAll spare + 1
  | .agg parts => uptoBulkAll parts + 1
  | .iface _ d => uptoBulk d + 1
  | .map entries => uptoBulkEntries entries + 1
  | .held _ => 1
def uptoBulkAll {H : Type} : List (DataW H) → Nat
  | [] => 0
  | d :: r => uptoBulk d + uptoBulkAll r
def uptoBulkEntries {H : Type} : List (Lit × DataW H) → Nat
  | [] => 0
  | x :: r => uptoBulkEntry x + uptoBulkEntries r
def uptoBulkEntry {H : Type} : Lit × DataW H → Nat
  | (.string bytes, d) => bytes.length + uptoBulk d + 1
  | (_, d) => uptoBulk d + 1
 end
def uptoSmall : (H : Type) → List (DataW H) → Bool := fun _ ds => decide (uptoBulkAll ds ≤ 1048576)
def OpenSpec.upto (s : _root_.Go.ChangeSpec) : _root_.Go.OpenSpec := { _root_.Go.OpenSpec.ofChange s with cond := some uptoSmall }

/-- 'laws.FnLebs', WHERE WHAT IT READS IS OF BULK AT MOST 1048576: true; the input reads as it did. -/
def fnLebsUptoRow : OpenClaim := { program := "ytnimlkobcginjaa", sum := "9ec64b159362a3d8f676c89e1a396fc16052651e9a7fcd1347ccf3bba2f12fbb", func := "loop.example/g00209/laws.FnLebs", spec := "fnLebs", apart := false, narrowed := true }
def FnLebsUptoSaid : Prop := fnLebsUptoRow.holds Try.pinned (OpenSpec.upto fnLebsSpec)

/-- 'laws.FnSections', WHERE WHAT IT READS IS OF BULK AT MOST 1048576: true; the input reads as it did. -/
def fnSectionsUptoRow : OpenClaim := { program := "ytnimlkobcginjaa", sum := "9ec64b159362a3d8f676c89e1a396fc16052651e9a7fcd1347ccf3bba2f12fbb", func := "loop.example/g00209/laws.FnSections", spec := "fnSections", apart := false, narrowed := true }
def FnSectionsUptoSaid : Prop := fnSectionsUptoRow.holds Try.pinned (OpenSpec.upto fnSectionsSpec)

/-- 'laws.FnCompared', WHERE WHAT IT READS IS OF BULK AT MOST 1048576: true; the input reads as it did. -/
def fnComparedUptoRow : OpenClaim := { program := "ytnimlkobcginjaa", sum := "9ec64b159362a3d8f676c89e1a396fc16052651e9a7fcd1347ccf3bba2f12fbb", func := "loop.example/g00209/laws.FnCompared", spec := "fnCompared", apart := false, narrowed := true }
def FnComparedUptoSaid : Prop := fnComparedUptoRow.holds Try.pinned (OpenSpec.upto fnComparedSpec)

/-- 'laws.FnWhole', WHERE WHAT IT READS IS OF BULK AT MOST 1048576: true; the input reads as it did. -/
def fnWholeUptoRow : OpenClaim := { program := "ytnimlkobcginjaa", sum := "9ec64b159362a3d8f676c89e1a396fc16052651e9a7fcd1347ccf3bba2f12fbb", func := "loop.example/g00209/laws.FnWhole", spec := "fnWhole", apart := false, narrowed := true }
def FnWholeUptoSaid : Prop := fnWholeUptoRow.holds Try.pinned (OpenSpec.upto fnWholeSpec)

/-- 'laws.FnConverted', WHERE WHAT IT READS IS OF BULK AT MOST 1048576: true; the input reads as it did. -/
def fnConvertedUptoRow : OpenClaim := { program := "ytnimlkobcginjaa", sum := "9ec64b159362a3d8f676c89e1a396fc16052651e9a7fcd1347ccf3bba2f12fbb", func := "loop.example/g00209/laws.FnConverted", spec := "fnConverted", apart := false, narrowed := true }
def FnConvertedUptoSaid : Prop := fnConvertedUptoRow.holds Try.pinned (OpenSpec.upto fnConvertedSpec)

end Rows
end Go.Proofs.Ytnimlkobcginjaa
