/-
  No cell of these rows narrows 'for every input' (looked for: loops, veiled, ifaces, maps, wideKeys, modest, calm, conditions, laid).
  DERIVED. THE GIVEN ROWS OF THIS SEAT. 6 by the template 'for every input the law returns true; each argument reads behind the call as it read before'; 0 by the template 'total and deterministic' (their statements: YtalmgodakdjjcaaTotals.lean).
  GIVEN WITH THE SEED: the statements are not yours to turn. If you find one false, say at which input.
  Laid BY PROGRAM, IN A SANDBOX (cutbox-rows.mjs): the forced cells as the released guide's own fill.sh prints them over the translation a6332712c65b1dca… (all of the seat's roots in one cut). By AI agents, Wed Nov 11 2026. No macro, syntax, notation, axiom, sorry.
-/
import Derived.Test.YtalmgodakdjjcaaChecked
import GoSem.Claim
import GoSem.ClaimJoined
import GoSem.ClaimMapViews
import Derived.JoinedTies
import Derived.KernelRfl
namespace Go.Proofs.Ytalmgodakdjjcaa
/- THE CELL 'sum', in the pinned program and in every row, IS THE sha256 OF THE DUMP (.gsa) THAT YtalmgodakdjjcaaProg.lean LOADS. Nothing in Lean hashes anything: it is a label: what it is worth is what the hold of that sum in a sandbox is worth. -/
noncomputable def Try.pinned : Pinned := { name := "ytalmgodakdjjcaa", sum := "a6332712c65b1dcaa38e71c91f82ec1d86be2bf07ea80b8213fbfa8941f90e22", checked := Try.checked }
namespace Rows
def none {H : Type} : Left H := { results := [], args := [] }

/-- 'laws.FnLoaded': WHATEVER THE INPUT: true; the input reads as it did. -/
def fnLoadedSpec : ChangeSpec := { name := "fnLoaded", fn := fun _ => fun
  | [d1, d2] => { results := [.lit (.bool true)], args := [d1, d2] }
  | _ => none }
def fnLoadedRow : OpenClaim := { program := "ytalmgodakdjjcaa", sum := "a6332712c65b1dcaa38e71c91f82ec1d86be2bf07ea80b8213fbfa8941f90e22", func := "loop.example/g00209/laws.FnLoaded", spec := "fnLoaded", apart := false }
def FnLoadedSaid : Prop := fnLoadedRow.holds Try.pinned (OpenSpec.ofChange fnLoadedSpec)

/-- ITS FALSE NEIGHBOUR: 'it returns false'. Refute it at one input. -/
def fnLoadedWrong : ChangeSpec := { name := "fnLoaded", fn := fun _ => fun
  | [d1, d2] => { results := [.lit (.bool false)], args := [d1, d2] }
  | _ => none }
def FnLoadedWrongFalsely : Prop := fnLoadedRow.holds Try.pinned (OpenSpec.ofChange fnLoadedWrong)

/-- 'laws.FnMoved': WHATEVER THE INPUT: true; the input reads as it did. -/
def fnMovedSpec : ChangeSpec := { name := "fnMoved", fn := fun _ => fun
  | [d1, d2] => { results := [.lit (.bool true)], args := [d1, d2] }
  | _ => none }
def fnMovedRow : OpenClaim := { program := "ytalmgodakdjjcaa", sum := "a6332712c65b1dcaa38e71c91f82ec1d86be2bf07ea80b8213fbfa8941f90e22", func := "loop.example/g00209/laws.FnMoved", spec := "fnMoved", apart := false }
def FnMovedSaid : Prop := fnMovedRow.holds Try.pinned (OpenSpec.ofChange fnMovedSpec)

/-- ITS FALSE NEIGHBOUR: 'it returns false'. Refute it at one input. -/
def fnMovedWrong : ChangeSpec := { name := "fnMoved", fn := fun _ => fun
  | [d1, d2] => { results := [.lit (.bool false)], args := [d1, d2] }
  | _ => none }
def FnMovedWrongFalsely : Prop := fnMovedRow.holds Try.pinned (OpenSpec.ofChange fnMovedWrong)

/-- 'laws.FnExactNewMemory': WHATEVER THE INPUT: true; the input reads as it did. -/
def fnExactNewMemorySpec : ChangeSpec := { name := "fnExactNewMemory", fn := fun _ => fun
  | [d1, d2] => { results := [.lit (.bool true)], args := [d1, d2] }
  | _ => none }
def fnExactNewMemoryRow : OpenClaim := { program := "ytalmgodakdjjcaa", sum := "a6332712c65b1dcaa38e71c91f82ec1d86be2bf07ea80b8213fbfa8941f90e22", func := "loop.example/g00209/laws.FnExactNewMemory", spec := "fnExactNewMemory", apart := false }
def FnExactNewMemorySaid : Prop := fnExactNewMemoryRow.holds Try.pinned (OpenSpec.ofChange fnExactNewMemorySpec)

/-- ITS FALSE NEIGHBOUR: 'it returns false'. Refute it at one input. -/
def fnExactNewMemoryWrong : ChangeSpec := { name := "fnExactNewMemory", fn := fun _ => fun
  | [d1, d2] => { results := [.lit (.bool false)], args := [d1, d2] }
  | _ => none }
def FnExactNewMemoryWrongFalsely : Prop := fnExactNewMemoryRow.holds Try.pinned (OpenSpec.ofChange fnExactNewMemoryWrong)

/-- 'laws.FnExactGoodMemory': WHATEVER THE INPUT: true; the input reads as it did. -/
def fnExactGoodMemorySpec : ChangeSpec := { name := "fnExactGoodMemory", fn := fun _ => fun
  | [d] => { results := [.lit (.bool true)], args := [d] }
  | _ => none }
def fnExactGoodMemoryRow : OpenClaim := { program := "ytalmgodakdjjcaa", sum := "a6332712c65b1dcaa38e71c91f82ec1d86be2bf07ea80b8213fbfa8941f90e22", func := "loop.example/g00209/laws.FnExactGoodMemory", spec := "fnExactGoodMemory", apart := false }
def FnExactGoodMemorySaid : Prop := fnExactGoodMemoryRow.holds Try.pinned (OpenSpec.ofChange fnExactGoodMemorySpec)

/-- ITS FALSE NEIGHBOUR: 'it returns false'. Refute it at one input. -/
def fnExactGoodMemoryWrong : ChangeSpec := { name := "fnExactGoodMemory", fn := fun _ => fun
  | [d] => { results := [.lit (.bool false)], args := [d] }
  | _ => none }
def FnExactGoodMemoryWrongFalsely : Prop := fnExactGoodMemoryRow.holds Try.pinned (OpenSpec.ofChange fnExactGoodMemoryWrong)

/-- 'laws.FnExactLoadBytes': WHATEVER THE INPUT: true; the input reads as it did. -/
def fnExactLoadBytesSpec : ChangeSpec := { name := "fnExactLoadBytes", fn := fun _ => fun
  | [d1, d2, d3] => { results := [.lit (.bool true)], args := [d1, d2, d3] }
  | _ => none }
def fnExactLoadBytesRow : OpenClaim := { program := "ytalmgodakdjjcaa", sum := "a6332712c65b1dcaa38e71c91f82ec1d86be2bf07ea80b8213fbfa8941f90e22", func := "loop.example/g00209/laws.FnExactLoadBytes", spec := "fnExactLoadBytes", apart := false }
def FnExactLoadBytesSaid : Prop := fnExactLoadBytesRow.holds Try.pinned (OpenSpec.ofChange fnExactLoadBytesSpec)

/-- ITS FALSE NEIGHBOUR: 'it returns false'. Refute it at one input. -/
def fnExactLoadBytesWrong : ChangeSpec := { name := "fnExactLoadBytes", fn := fun _ => fun
  | [d1, d2, d3] => { results := [.lit (.bool false)], args := [d1, d2, d3] }
  | _ => none }
def FnExactLoadBytesWrongFalsely : Prop := fnExactLoadBytesRow.holds Try.pinned (OpenSpec.ofChange fnExactLoadBytesWrong)

/-- 'laws.FnExactStoreBytes': WHATEVER THE INPUT: true; the input reads as it did. -/
def fnExactStoreBytesSpec : ChangeSpec := { name := "fnExactStoreBytes", fn := fun _ => fun
  | [d1, d2, d3] => { results := [.lit (.bool true)], args := [d1, d2, d3] }
  | _ => none }
def fnExactStoreBytesRow : OpenClaim := { program := "ytalmgodakdjjcaa", sum := "a6332712c65b1dcaa38e71c91f82ec1d86be2bf07ea80b8213fbfa8941f90e22", func := "loop.example/g00209/laws.FnExactStoreBytes", spec := "fnExactStoreBytes", apart := false }
def FnExactStoreBytesSaid : Prop := fnExactStoreBytesRow.holds Try.pinned (OpenSpec.ofChange fnExactStoreBytesSpec)

/-- ITS FALSE NEIGHBOUR: 'it returns false'. Refute it at one input. -/
def fnExactStoreBytesWrong : ChangeSpec := { name := "fnExactStoreBytes", fn := fun _ => fun
  | [d1, d2, d3] => { results := [.lit (.bool false)], args := [d1, d2, d3] }
  | _ => none }
def FnExactStoreBytesWrongFalsely : Prop := fnExactStoreBytesRow.holds Try.pinned (OpenSpec.ofChange fnExactStoreBytesWrong)

/- THE SECOND FORM. 'bulk': how many values and letters a reading holds, each counted each time it is reached (what is shared counts as often as it is met; a slice's spare places count too). A statement '..UptoSaid' is the law's where the arguments, and the package variables that the reading takes, are together of bulk at most 1048576: NARROWER than '..Said'. Prove '..Said' where nothing that the law and all that it calls make is longer than what came in: it says more and counts as full. Else prove '..UptoSaid'. A law counts once. -/
mutual
def uptoBulk {H : Type} : DataW H → Nat
  | .lit (.string bytes) => bytes.length + 1
  | .lit _ => 1
  | .nil => 1
  | .ptr d => uptoBulk d + 1
  | .slice elems spare => uptoBulkAll elems + uptoBulkAll spare + 1
  | .agg parts => uptoBulkAll parts + 1
  | .iface _ d => uptoBulk d + 1
  | .map entries => uptoBulkEntries entries + 1
  | .held _ => 1
def uptoBulkAll {H : Type} : List (DataW H) → Nat
  | [] => 0
  | d :: r => uptoBulk d + uptoBulkAll r
def uptoBulkEntries {H : Type} : List (Lit × DataW H) → Nat
  | [] => 0
  | x :: r => uptoBulkEntry x + uptoBulkEntries r
def uptoBulkEntry {H : Type} : Lit × DataW H → Nat
  | (.string bytes, d) => bytes.length + uptoBulk d + 1
  | (_, d) => uptoBulk d + 1
 end
def uptoSmall : (H : Type) → List (DataW H) → Bool := fun _ ds => decide (uptoBulkAll ds ≤ 1048576)
def OpenSpec.upto (s : _root_.Go.ChangeSpec) : _root_.Go.OpenSpec := { _root_.Go.OpenSpec.ofChange s with cond := some uptoSmall }

/-- 'laws.FnLoaded', WHERE WHAT IT READS IS OF BULK AT MOST 1048576: true; the input reads as it did. -/
def fnLoadedUptoRow : OpenClaim := { program := "ytalmgodakdjjcaa", sum := "a6332712c65b1dcaa38e71c91f82ec1d86be2bf07ea80b8213fbfa8941f90e22", func := "loop.example/g00209/laws.FnLoaded", spec := "fnLoaded", apart := false, narrowed := true }
def FnLoadedUptoSaid : Prop := fnLoadedUptoRow.holds Try.pinned (OpenSpec.upto fnLoadedSpec)

/-- 'laws.FnMoved', WHERE WHAT IT READS IS OF BULK AT MOST 1048576: true; the input reads as it did. -/
def fnMovedUptoRow : OpenClaim := { program := "ytalmgodakdjjcaa", sum := "a6332712c65b1dcaa38e71c91f82ec1d86be2bf07ea80b8213fbfa8941f90e22", func := "loop.example/g00209/laws.FnMoved", spec := "fnMoved", apart := false, narrowed := true }
def FnMovedUptoSaid : Prop := fnMovedUptoRow.holds Try.pinned (OpenSpec.upto fnMovedSpec)

/-- 'laws.FnExactNewMemory', WHERE WHAT IT READS IS OF BULK AT MOST 1048576: true; the input reads as it did. -/
def fnExactNewMemoryUptoRow : OpenClaim := { program := "ytalmgodakdjjcaa", sum := "a6332712c65b1dcaa38e71c91f82ec1d86be2bf07ea80b8213fbfa8941f90e22", func := "loop.example/g00209/laws.FnExactNewMemory", spec := "fnExactNewMemory", apart := false, narrowed := true }
def FnExactNewMemoryUptoSaid : Prop := fnExactNewMemoryUptoRow.holds Try.pinned (OpenSpec.upto fnExactNewMemorySpec)

/-- 'laws.FnExactGoodMemory', WHERE WHAT IT READS IS OF BULK AT MOST 1048576: true; the input reads as it did. -/
def fnExactGoodMemoryUptoRow : OpenClaim := { program := "ytalmgodakdjjcaa", sum := "a6332712c65b1dcaa38e71c91f82ec1d86be2bf07ea80b8213fbfa8941f90e22", func := "loop.example/g00209/laws.FnExactGoodMemory", spec := "fnExactGoodMemory", apart := false, narrowed := true }
def FnExactGoodMemoryUptoSaid : Prop := fnExactGoodMemoryUptoRow.holds Try.pinned (OpenSpec.upto fnExactGoodMemorySpec)

/-- 'laws.FnExactLoadBytes', WHERE WHAT IT READS IS OF BULK AT MOST 1048576: true; the input reads as it did. -/
def fnExactLoadBytesUptoRow : OpenClaim := { program := "ytalmgodakdjjcaa", sum := "a6332712c65b1dcaa38e71c91f82ec1d86be2bf07ea80b8213fbfa8941f90e22", func := "loop.example/g00209/laws.FnExactLoadBytes", spec := "fnExactLoadBytes", apart := false, narrowed := true }
def FnExactLoadBytesUptoSaid : Prop := fnExactLoadBytesUptoRow.holds Try.pinned (OpenSpec.upto fnExactLoadBytesSpec)

/-- 'laws.FnExactStoreBytes', WHERE WHAT IT READS IS OF BULK AT MOST 1048576: true; the input reads as it did. -/
def fnExactStoreBytesUptoRow : OpenClaim := { program := "ytalmgodakdjjcaa", sum := "a6332712c65b1dcaa38e71c91f82ec1d86be2bf07ea80b8213fbfa8941f90e22", func := "loop.example/g00209/laws.FnExactStoreBytes", spec := "fnExactStoreBytes", apart := false, narrowed := true }
def FnExactStoreBytesUptoSaid : Prop := fnExactStoreBytesUptoRow.holds Try.pinned (OpenSpec.upto fnExactStoreBytesSpec)

end Rows
end Go.Proofs.Ytalmgodakdjjcaa
