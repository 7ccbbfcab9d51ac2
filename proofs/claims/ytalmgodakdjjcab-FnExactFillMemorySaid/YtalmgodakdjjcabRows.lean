/-
  No cell of these rows narrows 'for every input' (looked for: loops, veiled, ifaces, maps, wideKeys, modest, calm, conditions, laid).
  DERIVED. THE GIVEN ROWS OF THIS SEAT. 4 by the template 'for every input the law returns true; each argument reads behind the call as it read before'; 0 by the template 'total and deterministic' (their statements: YtalmgodakdjjcabTotals.lean).
  GIVEN WITH THE SEED: the statements are not yours to turn. If you find one false, say at which input.
  Laid BY PROGRAM, IN A SANDBOX (cutbox-rows.mjs): the forced cells as the released guide's own fill.sh prints them over the translation e4fb8e74e7e58410… (all of the seat's roots in one cut). By AI agents, Wed Nov 11 2026. No macro, syntax, notation, axiom, sorry.
-/
import Derived.Test.YtalmgodakdjjcabChecked
import GoSem.Claim
import GoSem.ClaimJoined
import GoSem.ClaimMapViews
import Derived.JoinedTies
import Derived.KernelRfl
namespace Go.Proofs.Ytalmgodakdjjcab
/- THE CELL 'sum', in the pinned program and in every row, IS THE sha256 OF THE DUMP (.gsa) THAT YtalmgodakdjjcabProg.lean LOADS. Nothing in Lean hashes anything: it is a label: what it is worth is what the hold of that sum in a sandbox is worth. -/
noncomputable def Try.pinned : Pinned := { name := "ytalmgodakdjjcab", sum := "e4fb8e74e7e58410f8f3750373f404aeb1b995a9d7c4bc824b7170084996388a", checked := Try.checked }
namespace Rows
def none {H : Type} : Left H := { results := [], args := [] }

/-- 'laws.FnExactLoadInt': WHATEVER THE INPUT: true; the input reads as it did. -/
def fnExactLoadIntSpec : ChangeSpec := { name := "fnExactLoadInt", fn := fun _ => fun
  | [d1, d2, d3, d4] => { results := [.lit (.bool true)], args := [d1, d2, d3, d4] }
  | _ => none }
def fnExactLoadIntRow : OpenClaim := { program := "ytalmgodakdjjcab", sum := "e4fb8e74e7e58410f8f3750373f404aeb1b995a9d7c4bc824b7170084996388a", func := "loop.example/g00209/laws.FnExactLoadInt", spec := "fnExactLoadInt", apart := false }
def FnExactLoadIntSaid : Prop := fnExactLoadIntRow.holds Try.pinned (OpenSpec.ofChange fnExactLoadIntSpec)

/-- ITS FALSE NEIGHBOUR: 'it returns false'. Refute it at one input. -/
def fnExactLoadIntWrong : ChangeSpec := { name := "fnExactLoadInt", fn := fun _ => fun
  | [d1, d2, d3, d4] => { results := [.lit (.bool false)], args := [d1, d2, d3, d4] }
  | _ => none }
def FnExactLoadIntWrongFalsely : Prop := fnExactLoadIntRow.holds Try.pinned (OpenSpec.ofChange fnExactLoadIntWrong)

/-- 'laws.FnExactStoreInt': WHATEVER THE INPUT: true; the input reads as it did. -/
def fnExactStoreIntSpec : ChangeSpec := { name := "fnExactStoreInt", fn := fun _ => fun
  | [d1, d2, d3, d4] => { results := [.lit (.bool true)], args := [d1, d2, d3, d4] }
  | _ => none }
def fnExactStoreIntRow : OpenClaim := { program := "ytalmgodakdjjcab", sum := "e4fb8e74e7e58410f8f3750373f404aeb1b995a9d7c4bc824b7170084996388a", func := "loop.example/g00209/laws.FnExactStoreInt", spec := "fnExactStoreInt", apart := false }
def FnExactStoreIntSaid : Prop := fnExactStoreIntRow.holds Try.pinned (OpenSpec.ofChange fnExactStoreIntSpec)

/-- ITS FALSE NEIGHBOUR: 'it returns false'. Refute it at one input. -/
def fnExactStoreIntWrong : ChangeSpec := { name := "fnExactStoreInt", fn := fun _ => fun
  | [d1, d2, d3, d4] => { results := [.lit (.bool false)], args := [d1, d2, d3, d4] }
  | _ => none }
def FnExactStoreIntWrongFalsely : Prop := fnExactStoreIntRow.holds Try.pinned (OpenSpec.ofChange fnExactStoreIntWrong)

/-- 'laws.FnExactCopyWithin': WHATEVER THE INPUT: true; the input reads as it did. -/
def fnExactCopyWithinSpec : ChangeSpec := { name := "fnExactCopyWithin", fn := fun _ => fun
  | [d1, d2, d3, d4] => { results := [.lit (.bool true)], args := [d1, d2, d3, d4] }
  | _ => none }
def fnExactCopyWithinRow : OpenClaim := { program := "ytalmgodakdjjcab", sum := "e4fb8e74e7e58410f8f3750373f404aeb1b995a9d7c4bc824b7170084996388a", func := "loop.example/g00209/laws.FnExactCopyWithin", spec := "fnExactCopyWithin", apart := false }
def FnExactCopyWithinSaid : Prop := fnExactCopyWithinRow.holds Try.pinned (OpenSpec.ofChange fnExactCopyWithinSpec)

/-- ITS FALSE NEIGHBOUR: 'it returns false'. Refute it at one input. -/
def fnExactCopyWithinWrong : ChangeSpec := { name := "fnExactCopyWithin", fn := fun _ => fun
  | [d1, d2, d3, d4] => { results := [.lit (.bool false)], args := [d1, d2, d3, d4] }
  | _ => none }
def FnExactCopyWithinWrongFalsely : Prop := fnExactCopyWithinRow.holds Try.pinned (OpenSpec.ofChange fnExactCopyWithinWrong)

/-- 'laws.FnExactFillMemory': WHATEVER THE INPUT: true; the input reads as it did. -/
def fnExactFillMemorySpec : ChangeSpec := { name := "fnExactFillMemory", fn := fun _ => fun
  | [d1, d2, d3, d4] => { results := [.lit (.bool true)], args := [d1, d2, d3, d4] }
  | _ => none }
def fnExactFillMemoryRow : OpenClaim := { program := "ytalmgodakdjjcab", sum := "e4fb8e74e7e58410f8f3750373f404aeb1b995a9d7c4bc824b7170084996388a", func := "loop.example/g00209/laws.FnExactFillMemory", spec := "fnExactFillMemory", inPlace := ["internal/abi.NoEscape", "internal/bytealg.MakeNoZero"], apart := false }
def FnExactFillMemorySaid : Prop := fnExactFillMemoryRow.holds Try.pinned (OpenSpec.ofChange fnExactFillMemorySpec)

/-- ITS FALSE NEIGHBOUR: 'it returns false'. Refute it at one input. -/
def fnExactFillMemoryWrong : ChangeSpec := { name := "fnExactFillMemory", fn := fun _ => fun
  | [d1, d2, d3, d4] => { results := [.lit (.bool false)], args := [d1, d2, d3, d4] }
  | _ => none }
def FnExactFillMemoryWrongFalsely : Prop := fnExactFillMemoryRow.holds Try.pinned (OpenSpec.ofChange fnExactFillMemoryWrong)

/- THE SECOND FORM. 'bulk': how many values and letters a reading holds, each counted each time it is reached (what is shared counts as often as it is met; a slice's spare places count too). A statement '..UptoSaid' is the law's where the arguments, and the package variables that the reading takes, are together of bulk at most 1048576: NARROWER than '..Said'. Prove '..Said' where nothing that the law and all that it calls make is longer than what came in: it says more and counts as full. Else prove '..UptoSaid'. A law counts once. -/
mutual
def uptoBulk {H : Type} : DataW H → Nat
  | .lit (.string bytes) => bytes.length + 1
  | .lit _ => 1
  | .nil => 1
  | .ptr d => uptoBulk d + 1
  | .slice elems spare => uptoBulkAll elems + uptoBulkAll spare + 1
  | .agg parts => uptoBulkAll parts + 1
  | .iface _ d => uptoBulk d + 1
  | .map entries => uptoBulkEntries entries + 1
  | .held _ => 1
def uptoBulkAll {H : Type} : List (DataW H) → Nat
  | [] => 0
  | d :: r => uptoBulk d + uptoBulkAll r
def uptoBulkEntries {H : Type} : List (Lit × DataW H) → Nat
  | [] => 0
  | x :: r => uptoBulkEntry x + uptoBulkEntries r
def uptoBulkEntry {H : Type} : Lit × DataW H → Nat
  | (.string bytes, d) => bytes.length + uptoBulk d + 1
  | (_, d) => uptoBulk d + 1
 end
def uptoSmall : (H : Type) → List (DataW H) → Bool := fun _ ds => decide (uptoBulkAll ds ≤ 1048576)
def OpenSpec.upto (s : _root_.Go.ChangeSpec) : _root_.Go.OpenSpec := { _root_.Go.OpenSpec.ofChange s with cond := some uptoSmall }

/-- 'laws.FnExactLoadInt', WHERE WHAT IT READS IS OF BULK AT MOST 1048576: true; the input reads as it did. -/
def fnExactLoadIntUptoRow : OpenClaim := { program := "ytalmgodakdjjcab", sum := "e4fb8e74e7e58410f8f3750373f404aeb1b995a9d7c4bc824b7170084996388a", func := "loop.example/g00209/laws.FnExactLoadInt", spec := "fnExactLoadInt", apart := false, narrowed := true }
def FnExactLoadIntUptoSaid : Prop := fnExactLoadIntUptoRow.holds Try.pinned (OpenSpec.upto fnExactLoadIntSpec)

/-- 'laws.FnExactStoreInt', WHERE WHAT IT READS IS OF BULK AT MOST 1048576: true; the input reads as it did. -/
def fnExactStoreIntUptoRow : OpenClaim := { program := "ytalmgodakdjjcab", sum := "e4fb8e74e7e58410f8f3750373f404aeb1b995a9d7c4bc824b7170084996388a", func := "loop.example/g00209/laws.FnExactStoreInt", spec := "fnExactStoreInt", apart := false, narrowed := true }
def FnExactStoreIntUptoSaid : Prop := fnExactStoreIntUptoRow.holds Try.pinned (OpenSpec.upto fnExactStoreIntSpec)

/-- 'laws.FnExactCopyWithin', WHERE WHAT IT READS IS OF BULK AT MOST 1048576: true; the input reads as it did. -/
def fnExactCopyWithinUptoRow : OpenClaim := { program := "ytalmgodakdjjcab", sum := "e4fb8e74e7e58410f8f3750373f404aeb1b995a9d7c4bc824b7170084996388a", func := "loop.example/g00209/laws.FnExactCopyWithin", spec := "fnExactCopyWithin", apart := false, narrowed := true }
def FnExactCopyWithinUptoSaid : Prop := fnExactCopyWithinUptoRow.holds Try.pinned (OpenSpec.upto fnExactCopyWithinSpec)

/-- 'laws.FnExactFillMemory', WHERE WHAT IT READS IS OF BULK AT MOST 1048576: true; the input reads as it did. -/
def fnExactFillMemoryUptoRow : OpenClaim := { program := "ytalmgodakdjjcab", sum := "e4fb8e74e7e58410f8f3750373f404aeb1b995a9d7c4bc824b7170084996388a", func := "loop.example/g00209/laws.FnExactFillMemory", spec := "fnExactFillMemory", inPlace := ["internal/abi.NoEscape", "internal/bytealg.MakeNoZero"], apart := false, narrowed := true }
def FnExactFillMemoryUptoSaid : Prop := fnExactFillMemoryUptoRow.holds Try.pinned (OpenSpec.upto fnExactFillMemorySpec)

end Rows
end Go.Proofs.Ytalmgodakdjjcab
