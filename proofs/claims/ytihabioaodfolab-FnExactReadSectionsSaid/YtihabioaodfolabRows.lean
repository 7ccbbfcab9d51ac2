/-
  No cell of these rows narrows 'for every input' (looked for: loops, veiled, ifaces, maps, wideKeys, modest, calm, conditions, laid).
  DERIVED. THE GIVEN ROWS OF THIS SEAT. 3 by the template 'for every input the law returns true; each argument reads behind the call as it read before'; 0 by the template 'total and deterministic' (their statements: YtihabioaodfolabTotals.lean).
  GIVEN WITH THE SEED: the statements are not yours to turn. If you find one false, say at which input.
  Laid BY PROGRAM, IN A SANDBOX (cutbox-rows.mjs): the forced cells as the released guide's own fill.sh prints them over the translation a56b6bddbb0c93cb… (all of the seat's roots in one cut). By AI agents, Wed Nov 11 2026. No macro, syntax, notation, axiom, sorry.
-/
import Derived.Test.YtihabioaodfolabChecked
import GoSem.Claim
import GoSem.ClaimJoined
import GoSem.ClaimMapViews
import Derived.JoinedTies
import Derived.KernelRfl
namespace Go.Proofs.Ytihabioaodfolab
/- THE CELL 'sum', in the pinned program and in every row, IS THE sha256 OF THE DUMP (.gsa) THAT YtihabioaodfolabProg.lean LOADS. Nothing in Lean hashes anything: it is a label: what it is worth is what the hold of that sum in a sandbox is worth. -/
noncomputable def Try.pinned : Pinned := { name := "ytihabioaodfolab", sum := "a56b6bddbb0c93cbce163022b3dcd326b55de41706664a1d28204c5ec618b95a", checked := Try.checked }
namespace Rows
def none {H : Type} : Left H := { results := [], args := [] }

/-- 'laws.FnExactReadSections': WHATEVER THE INPUT: true; the input reads as it did. -/
def fnExactReadSectionsSpec : ChangeSpec := { name := "fnExactReadSections", fn := fun _ => fun
  | [d] => { results := [.lit (.bool true)], args := [d] }
  | _ => none }
def fnExactReadSectionsRow : OpenClaim := { program := "ytihabioaodfolab", sum := "a56b6bddbb0c93cbce163022b3dcd326b55de41706664a1d28204c5ec618b95a", func := "loop.example/g00209/laws.FnExactReadSections", spec := "fnExactReadSections", apart := false }
def FnExactReadSectionsSaid : Prop := fnExactReadSectionsRow.holds Try.pinned (OpenSpec.ofChange fnExactReadSectionsSpec)

/-- ITS FALSE NEIGHBOUR: 'it returns false'. Refute it at one input. -/
def fnExactReadSectionsWrong : ChangeSpec := { name := "fnExactReadSections", fn := fun _ => fun
  | [d] => { results := [.lit (.bool false)], args := [d] }
  | _ => none }
def FnExactReadSectionsWrongFalsely : Prop := fnExactReadSectionsRow.holds Try.pinned (OpenSpec.ofChange fnExactReadSectionsWrong)

/-- 'laws.FnExactNameBytes': WHATEVER THE INPUT: true; the input reads as it did. -/
def fnExactNameBytesSpec : ChangeSpec := { name := "fnExactNameBytes", fn := fun _ => fun
  | [d] => { results := [.lit (.bool true)], args := [d] }
  | _ => none }
def fnExactNameBytesRow : OpenClaim := { program := "ytihabioaodfolab", sum := "a56b6bddbb0c93cbce163022b3dcd326b55de41706664a1d28204c5ec618b95a", func := "loop.example/g00209/laws.FnExactNameBytes", spec := "fnExactNameBytes", apart := false }
def FnExactNameBytesSaid : Prop := fnExactNameBytesRow.holds Try.pinned (OpenSpec.ofChange fnExactNameBytesSpec)

/-- ITS FALSE NEIGHBOUR: 'it returns false'. Refute it at one input. -/
def fnExactNameBytesWrong : ChangeSpec := { name := "fnExactNameBytes", fn := fun _ => fun
  | [d] => { results := [.lit (.bool false)], args := [d] }
  | _ => none }
def FnExactNameBytesWrongFalsely : Prop := fnExactNameBytesRow.holds Try.pinned (OpenSpec.ofChange fnExactNameBytesWrong)

/-- 'laws.FnExactTakeName': WHATEVER THE INPUT: true; the input reads as it did. -/
def fnExactTakeNameSpec : ChangeSpec := { name := "fnExactTakeName", fn := fun _ => fun
  | [d] => { results := [.lit (.bool true)], args := [d] }
  | _ => none }
def fnExactTakeNameRow : OpenClaim := { program := "ytihabioaodfolab", sum := "a56b6bddbb0c93cbce163022b3dcd326b55de41706664a1d28204c5ec618b95a", func := "loop.example/g00209/laws.FnExactTakeName", spec := "fnExactTakeName", apart := false }
def FnExactTakeNameSaid : Prop := fnExactTakeNameRow.holds Try.pinned (OpenSpec.ofChange fnExactTakeNameSpec)

/-- ITS FALSE NEIGHBOUR: 'it returns false'. Refute it at one input. -/
def fnExactTakeNameWrong : ChangeSpec := { name := "fnExactTakeName", fn := fun _ => fun
  | [d] => { results := [.lit (.bool false)], args := [d] }
  | _ => none }
def FnExactTakeNameWrongFalsely : Prop := fnExactTakeNameRow.holds Try.pinned (OpenSpec.ofChange fnExactTakeNameWrong)

/- THE SECOND FORM. 'bulk': how many values and letters a reading holds, each counted each time it is reached (what is shared counts as often as it is met; a slice's spare places count too). A statement '..UptoSaid' is the law's where the arguments, and the package variables that the reading takes, are together of bulk at most 1048576: NARROWER than '..Said'. Prove '..Said' where nothing that the law and all that it calls make is longer than what came in: it says more and counts as full. Else prove '..UptoSaid'. A law counts once. -/
mutual
def uptoBulk {H : Type} : DataW H → Nat
  | .lit (.string bytes) => bytes.length + 1
  | .lit _ => 1
  | .nil => 1
  | .ptr d => uptoBulk d + 1
  | .slice elems spare => uptoBulkAll elems + uptoBulkAll spare + 1
  | .agg parts => uptoBulkAll parts + 1
  | .iface _ d => uptoBulk d + 1
  | .map entries => uptoBulkEntries entries + 1
  | .held _ => 1
def uptoBulkAll {H : Type} : List (DataW H) → Nat
  | [] => 0
  | d :: r => uptoBulk d + uptoBulkAll r
def uptoBulkEntries {H : Type} : List (Lit × DataW H) → Nat
  | [] => 0
  | x :: r => uptoBulkEntry x + uptoBulkEntries r
def uptoBulkEntry {H : Type} : Lit × DataW H → Nat
  | (.string bytes, d) => bytes.length + uptoBulk d + 1
  | (_, d) => uptoBulk d + 1
 end
def uptoSmall : (H : Type) → List (DataW H) → Bool := fun _ ds => decide (uptoBulkAll ds ≤ 1048576)
def OpenSpec.upto (s : _root_.Go.ChangeSpec) : _root_.Go.OpenSpec := { _root_.Go.OpenSpec.ofChange s with cond := some uptoSmall }

/-- 'laws.FnExactReadSections', WHERE WHAT IT READS IS OF BULK AT MOST 1048576: true; the input reads as it did. -/
def fnExactReadSectionsUptoRow : OpenClaim := { program := "ytihabioaodfolab", sum := "a56b6bddbb0c93cbce163022b3dcd326b55de41706664a1d28204c5ec618b95a", func := "loop.example/g00209/laws.FnExactReadSections", spec := "fnExactReadSections", apart := false, narrowed := true }
def FnExactReadSectionsUptoSaid : Prop := fnExactReadSectionsUptoRow.holds Try.pinned (OpenSpec.upto fnExactReadSectionsSpec)

/-- 'laws.FnExactNameBytes', WHERE WHAT IT READS IS OF BULK AT MOST 1048576: true; the input reads as it did. -/
def fnExactNameBytesUptoRow : OpenClaim := { program := "ytihabioaodfolab", sum := "a56b6bddbb0c93cbce163022b3dcd326b55de41706664a1d28204c5ec618b95a", func := "loop.example/g00209/laws.FnExactNameBytes", spec := "fnExactNameBytes", apart := false, narrowed := true }
def FnExactNameBytesUptoSaid : Prop := fnExactNameBytesUptoRow.holds Try.pinned (OpenSpec.upto fnExactNameBytesSpec)

/-- 'laws.FnExactTakeName', WHERE WHAT IT READS IS OF BULK AT MOST 1048576: true; the input reads as it did. -/
def fnExactTakeNameUptoRow : OpenClaim := { program := "ytihabioaodfolab", sum := "a56b6bddbb0c93cbce163022b3dcd326b55de41706664a1d28204c5ec618b95a", func := "loop.example/g00209/laws.FnExactTakeName", spec := "fnExactTakeName", apart := false, narrowed := true }
def FnExactTakeNameUptoSaid : Prop := fnExactTakeNameUptoRow.holds Try.pinned (OpenSpec.upto fnExactTakeNameSpec)

end Rows
end Go.Proofs.Ytihabioaodfolab
