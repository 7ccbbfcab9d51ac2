/-
  No cell of these rows narrows 'for every input' (looked for: loops, veiled, ifaces, maps, wideKeys, modest, calm, conditions, laid).
  DERIVED. THE GIVEN ROWS OF THIS SEAT. 3 by the template 'for every input the law returns true; each argument reads behind the call as it read before'; 0 by the template 'total and deterministic' (their statements: YtokaljglaholnaaTotals.lean).
  GIVEN WITH THE SEED: the statements are not yours to turn. If you find one false, say at which input.
  Laid BY PROGRAM, IN A SANDBOX (cutbox-rows.mjs): the forced cells as the released guide's own fill.sh prints them over the translation b71fd404ae99dea1… (all of the seat's roots in one cut). By AI agents, Wed Nov 11 2026. No macro, syntax, notation, axiom, sorry.
-/
import Derived.Test.YtokaljglaholnaaChecked
import GoSem.Claim
import GoSem.ClaimJoined
import GoSem.ClaimMapViews
import Derived.JoinedTies
import Derived.KernelRfl
namespace Go.Proofs.Ytokaljglaholnaa
/- THE CELL 'sum', in the pinned program and in every row, IS THE sha256 OF THE DUMP (.gsa) THAT YtokaljglaholnaaProg.lean LOADS. Nothing in Lean hashes anything: it is a label: what it is worth is what the hold of that sum in a sandbox is worth. -/
noncomputable def Try.pinned : Pinned := { name := "ytokaljglaholnaa", sum := "b71fd404ae99dea1f21b6e2998adec63a4fff2837c75785210f921bdfdf09035", checked := Try.checked }
namespace Rows
def none {H : Type} : Left H := { results := [], args := [] }

/-- 'laws.FnExactModuleBytes': WHATEVER THE INPUT: true; the input reads as it did. -/
def fnExactModuleBytesSpec : ChangeSpec := { name := "fnExactModuleBytes", fn := fun _ => fun
  | [d] => { results := [.lit (.bool true)], args := [d] }
  | _ => none }
def fnExactModuleBytesRow : OpenClaim := { program := "ytokaljglaholnaa", sum := "b71fd404ae99dea1f21b6e2998adec63a4fff2837c75785210f921bdfdf09035", func := "loop.example/g00209/laws.FnExactModuleBytes", spec := "fnExactModuleBytes", unfollowed := true, recurses := true, apart := false }
def FnExactModuleBytesSaid : Prop := fnExactModuleBytesRow.holds Try.pinned (OpenSpec.ofChange fnExactModuleBytesSpec)

/-- ITS FALSE NEIGHBOUR: 'it returns false'. Refute it at one input. -/
def fnExactModuleBytesWrong : ChangeSpec := { name := "fnExactModuleBytes", fn := fun _ => fun
  | [d] => { results := [.lit (.bool false)], args := [d] }
  | _ => none }
def FnExactModuleBytesWrongFalsely : Prop := fnExactModuleBytesRow.holds Try.pinned (OpenSpec.ofChange fnExactModuleBytesWrong)

/-- 'laws.FnExactFuncBytes': WHATEVER THE INPUT: true; the input reads as it did. -/
def fnExactFuncBytesSpec : ChangeSpec := { name := "fnExactFuncBytes", fn := fun _ => fun
  | [d] => { results := [.lit (.bool true)], args := [d] }
  | _ => none }
def fnExactFuncBytesRow : OpenClaim := { program := "ytokaljglaholnaa", sum := "b71fd404ae99dea1f21b6e2998adec63a4fff2837c75785210f921bdfdf09035", func := "loop.example/g00209/laws.FnExactFuncBytes", spec := "fnExactFuncBytes", unfollowed := true, recurses := true, apart := false }
def FnExactFuncBytesSaid : Prop := fnExactFuncBytesRow.holds Try.pinned (OpenSpec.ofChange fnExactFuncBytesSpec)

/-- ITS FALSE NEIGHBOUR: 'it returns false'. Refute it at one input. -/
def fnExactFuncBytesWrong : ChangeSpec := { name := "fnExactFuncBytes", fn := fun _ => fun
  | [d] => { results := [.lit (.bool false)], args := [d] }
  | _ => none }
def FnExactFuncBytesWrongFalsely : Prop := fnExactFuncBytesRow.holds Try.pinned (OpenSpec.ofChange fnExactFuncBytesWrong)

/-- 'laws.FnExactSameModule': WHATEVER THE INPUT: true; the input reads as it did. -/
def fnExactSameModuleSpec : ChangeSpec := { name := "fnExactSameModule", fn := fun _ => fun
  | [d1, d2] => { results := [.lit (.bool true)], args := [d1, d2] }
  | _ => none }
def fnExactSameModuleRow : OpenClaim := { program := "ytokaljglaholnaa", sum := "b71fd404ae99dea1f21b6e2998adec63a4fff2837c75785210f921bdfdf09035", func := "loop.example/g00209/laws.FnExactSameModule", spec := "fnExactSameModule", unfollowed := true, recurses := true, apart := false }
def FnExactSameModuleSaid : Prop := fnExactSameModuleRow.holds Try.pinned (OpenSpec.ofChange fnExactSameModuleSpec)

/-- ITS FALSE NEIGHBOUR: 'it returns false'. Refute it at one input. -/
def fnExactSameModuleWrong : ChangeSpec := { name := "fnExactSameModule", fn := fun _ => fun
  | [d1, d2] => { results := [.lit (.bool false)], args := [d1, d2] }
  | _ => none }
def FnExactSameModuleWrongFalsely : Prop := fnExactSameModuleRow.holds Try.pinned (OpenSpec.ofChange fnExactSameModuleWrong)

/- THE SECOND FORM. 'bulk': how many values and letters a reading holds, each counted each time it is reached (what is shared counts as often as it is met; a slice's spare places count too). A statement '..UptoSaid' is the law's where the arguments, and the package variables that the reading takes, are together of bulk at most 1048576: NARROWER than '..Said'. Prove '..Said' where nothing that the law and all that it calls make is longer than what came in: it says more and counts as full. Else prove '..UptoSaid'. A law counts once. -/
mutual
def uptoBulk {H : Type} : DataW H → Nat
  | .lit (.string bytes) => bytes.length + 1
  | .lit _ => 1
  | .nil => 1
  | .ptr d => uptoBulk d + 1
  | .slice elems spare => uptoBulkAll elems + uptoBulkAll spare + 1
  | .agg parts => uptoBulkAll parts + 1
  | .iface _ d => uptoBulk d + 1
  | .map entries => uptoBulkEntries entries + 1
  | .held _ => 1
def uptoBulkAll {H : Type} : List (DataW H) → Nat
  | [] => 0
  | d :: r => uptoBulk d + uptoBulkAll r
def uptoBulkEntries {H : Type} : List (Lit × DataW H) → Nat
  | [] => 0
  | x :: r => uptoBulkEntry x + uptoBulkEntries r
def uptoBulkEntry {H : Type} : Lit × DataW H → Nat
  | (.string bytes, d) => bytes.length + uptoBulk d + 1
  | (_, d) => uptoBulk d + 1
 end
def uptoSmall : (H : Type) → List (DataW H) → Bool := fun _ ds => decide (uptoBulkAll ds ≤ 1048576)
def OpenSpec.upto (s : _root_.Go.ChangeSpec) : _root_.Go.OpenSpec := { _root_.Go.OpenSpec.ofChange s with cond := some uptoSmall }

/-- 'laws.FnExactModuleBytes', WHERE WHAT IT READS IS OF BULK AT MOST 1048576: true; the input reads as it did. -/
def fnExactModuleBytesUptoRow : OpenClaim := { program := "ytokaljglaholnaa", sum := "b71fd404ae99dea1f21b6e2998adec63a4fff2837c75785210f921bdfdf09035", func := "loop.example/g00209/laws.FnExactModuleBytes", spec := "fnExactModuleBytes", unfollowed := true, recurses := true, apart := false, narrowed := true }
def FnExactModuleBytesUptoSaid : Prop := fnExactModuleBytesUptoRow.holds Try.pinned (OpenSpec.upto fnExactModuleBytesSpec)

/-- 'laws.FnExactFuncBytes', WHERE WHAT IT READS IS OF BULK AT MOST 1048576: true; the input reads as it did. -/
def fnExactFuncBytesUptoRow : OpenClaim := { program := "ytokaljglaholnaa", sum := "b71fd404ae99dea1f21b6e2998adec63a4fff2837c75785210f921bdfdf09035", func := "loop.example/g00209/laws.FnExactFuncBytes", spec := "fnExactFuncBytes", unfollowed := true, recurses := true, apart := false, narrowed := true }
def FnExactFuncBytesUptoSaid : Prop := fnExactFuncBytesUptoRow.holds Try.pinned (OpenSpec.upto fnExactFuncBytesSpec)

/-- 'laws.FnExactSameModule', WHERE WHAT IT READS IS OF BULK AT MOST 1048576: true; the input reads as it did. -/
def fnExactSameModuleUptoRow : OpenClaim := { program := "ytokaljglaholnaa", sum := "b71fd404ae99dea1f21b6e2998adec63a4fff2837c75785210f921bdfdf09035", func := "loop.example/g00209/laws.FnExactSameModule", spec := "fnExactSameModule", unfollowed := true, recurses := true, apart := false, narrowed := true }
def FnExactSameModuleUptoSaid : Prop := fnExactSameModuleUptoRow.holds Try.pinned (OpenSpec.upto fnExactSameModuleSpec)

end Rows
end Go.Proofs.Ytokaljglaholnaa
