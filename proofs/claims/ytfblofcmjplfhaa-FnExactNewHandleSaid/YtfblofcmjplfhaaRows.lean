/-
  No cell of these rows narrows 'for every input' (looked for: loops, veiled, ifaces, maps, wideKeys, modest, calm, conditions, laid).
  DERIVED. THE GIVEN ROWS OF THIS SEAT. 6 by the template 'for every input the law returns true; each argument reads behind the call as it read before'; 0 by the template 'total and deterministic' (their statements: YtfblofcmjplfhaaTotals.lean).
  GIVEN WITH THE SEED: the statements are not yours to turn. If you find one false, say at which input.
  Laid BY PROGRAM, IN A SANDBOX (cutbox-rows.mjs): the forced cells as the released guide's own fill.sh prints them over the translation cc8dea880e20189b… (all of the seat's roots in one cut). By AI agents, Wed Nov 11 2026. No macro, syntax, notation, axiom, sorry.
-/
import Derived.Test.YtfblofcmjplfhaaChecked
import GoSem.Claim
import GoSem.ClaimJoined
import GoSem.ClaimMapViews
import Derived.JoinedTies
import Derived.KernelRfl
namespace Go.Proofs.Ytfblofcmjplfhaa
/- THE CELL 'sum', in the pinned program and in every row, IS THE sha256 OF THE DUMP (.gsa) THAT YtfblofcmjplfhaaProg.lean LOADS. Nothing in Lean hashes anything: it is a label: what it is worth is what the hold of that sum in a sandbox is worth. -/
noncomputable def Try.pinned : Pinned := { name := "ytfblofcmjplfhaa", sum := "cc8dea880e20189b953f2d16c9afca7c054982767fa9895b0f0f076baf510009", checked := Try.checked }
namespace Rows
def none {H : Type} : Left H := { results := [], args := [] }

/-- 'laws.FnExactGoodTable': WHATEVER THE INPUT: true; the input reads as it did. -/
def fnExactGoodTableSpec : ChangeSpec := { name := "fnExactGoodTable", fn := fun _ => fun
  | [d] => { results := [.lit (.bool true)], args := [d] }
  | _ => none }
def fnExactGoodTableRow : OpenClaim := { program := "ytfblofcmjplfhaa", sum := "cc8dea880e20189b953f2d16c9afca7c054982767fa9895b0f0f076baf510009", func := "loop.example/g00209/laws.FnExactGoodTable", spec := "fnExactGoodTable", apart := false }
def FnExactGoodTableSaid : Prop := fnExactGoodTableRow.holds Try.pinned (OpenSpec.ofChange fnExactGoodTableSpec)

/-- ITS FALSE NEIGHBOUR: 'it returns false'. Refute it at one input. -/
def fnExactGoodTableWrong : ChangeSpec := { name := "fnExactGoodTable", fn := fun _ => fun
  | [d] => { results := [.lit (.bool false)], args := [d] }
  | _ => none }
def FnExactGoodTableWrongFalsely : Prop := fnExactGoodTableRow.holds Try.pinned (OpenSpec.ofChange fnExactGoodTableWrong)

/-- 'laws.FnExactNewHandle': WHATEVER THE INPUT: true; the input reads as it did. -/
def fnExactNewHandleSpec : ChangeSpec := { name := "fnExactNewHandle", fn := fun _ => fun
  | [d1, d2] => { results := [.lit (.bool true)], args := [d1, d2] }
  | _ => none }
def fnExactNewHandleRow : OpenClaim := { program := "ytfblofcmjplfhaa", sum := "cc8dea880e20189b953f2d16c9afca7c054982767fa9895b0f0f076baf510009", func := "loop.example/g00209/laws.FnExactNewHandle", spec := "fnExactNewHandle", apart := false }
def FnExactNewHandleSaid : Prop := fnExactNewHandleRow.holds Try.pinned (OpenSpec.ofChange fnExactNewHandleSpec)

/-- ITS FALSE NEIGHBOUR: 'it returns false'. Refute it at one input. -/
def fnExactNewHandleWrong : ChangeSpec := { name := "fnExactNewHandle", fn := fun _ => fun
  | [d1, d2] => { results := [.lit (.bool false)], args := [d1, d2] }
  | _ => none }
def FnExactNewHandleWrongFalsely : Prop := fnExactNewHandleRow.holds Try.pinned (OpenSpec.ofChange fnExactNewHandleWrong)

/-- 'laws.FnExactFindHandle': WHATEVER THE INPUT: true; the input reads as it did. -/
def fnExactFindHandleSpec : ChangeSpec := { name := "fnExactFindHandle", fn := fun _ => fun
  | [d1, d2, d3] => { results := [.lit (.bool true)], args := [d1, d2, d3] }
  | _ => none }
def fnExactFindHandleRow : OpenClaim := { program := "ytfblofcmjplfhaa", sum := "cc8dea880e20189b953f2d16c9afca7c054982767fa9895b0f0f076baf510009", func := "loop.example/g00209/laws.FnExactFindHandle", spec := "fnExactFindHandle", apart := false }
def FnExactFindHandleSaid : Prop := fnExactFindHandleRow.holds Try.pinned (OpenSpec.ofChange fnExactFindHandleSpec)

/-- ITS FALSE NEIGHBOUR: 'it returns false'. Refute it at one input. -/
def fnExactFindHandleWrong : ChangeSpec := { name := "fnExactFindHandle", fn := fun _ => fun
  | [d1, d2, d3] => { results := [.lit (.bool false)], args := [d1, d2, d3] }
  | _ => none }
def FnExactFindHandleWrongFalsely : Prop := fnExactFindHandleRow.holds Try.pinned (OpenSpec.ofChange fnExactFindHandleWrong)

/-- 'laws.FnExactLendHandle': WHATEVER THE INPUT: true; the input reads as it did. -/
def fnExactLendHandleSpec : ChangeSpec := { name := "fnExactLendHandle", fn := fun _ => fun
  | [d1, d2, d3] => { results := [.lit (.bool true)], args := [d1, d2, d3] }
  | _ => none }
def fnExactLendHandleRow : OpenClaim := { program := "ytfblofcmjplfhaa", sum := "cc8dea880e20189b953f2d16c9afca7c054982767fa9895b0f0f076baf510009", func := "loop.example/g00209/laws.FnExactLendHandle", spec := "fnExactLendHandle", apart := false }
def FnExactLendHandleSaid : Prop := fnExactLendHandleRow.holds Try.pinned (OpenSpec.ofChange fnExactLendHandleSpec)

/-- ITS FALSE NEIGHBOUR: 'it returns false'. Refute it at one input. -/
def fnExactLendHandleWrong : ChangeSpec := { name := "fnExactLendHandle", fn := fun _ => fun
  | [d1, d2, d3] => { results := [.lit (.bool false)], args := [d1, d2, d3] }
  | _ => none }
def FnExactLendHandleWrongFalsely : Prop := fnExactLendHandleRow.holds Try.pinned (OpenSpec.ofChange fnExactLendHandleWrong)

/-- 'laws.FnExactReturnHandle': WHATEVER THE INPUT: true; the input reads as it did. -/
def fnExactReturnHandleSpec : ChangeSpec := { name := "fnExactReturnHandle", fn := fun _ => fun
  | [d1, d2] => { results := [.lit (.bool true)], args := [d1, d2] }
  | _ => none }
def fnExactReturnHandleRow : OpenClaim := { program := "ytfblofcmjplfhaa", sum := "cc8dea880e20189b953f2d16c9afca7c054982767fa9895b0f0f076baf510009", func := "loop.example/g00209/laws.FnExactReturnHandle", spec := "fnExactReturnHandle", apart := false }
def FnExactReturnHandleSaid : Prop := fnExactReturnHandleRow.holds Try.pinned (OpenSpec.ofChange fnExactReturnHandleSpec)

/-- ITS FALSE NEIGHBOUR: 'it returns false'. Refute it at one input. -/
def fnExactReturnHandleWrong : ChangeSpec := { name := "fnExactReturnHandle", fn := fun _ => fun
  | [d1, d2] => { results := [.lit (.bool false)], args := [d1, d2] }
  | _ => none }
def FnExactReturnHandleWrongFalsely : Prop := fnExactReturnHandleRow.holds Try.pinned (OpenSpec.ofChange fnExactReturnHandleWrong)

/-- 'laws.FnExactDropHandle': WHATEVER THE INPUT: true; the input reads as it did. -/
def fnExactDropHandleSpec : ChangeSpec := { name := "fnExactDropHandle", fn := fun _ => fun
  | [d1, d2, d3] => { results := [.lit (.bool true)], args := [d1, d2, d3] }
  | _ => none }
def fnExactDropHandleRow : OpenClaim := { program := "ytfblofcmjplfhaa", sum := "cc8dea880e20189b953f2d16c9afca7c054982767fa9895b0f0f076baf510009", func := "loop.example/g00209/laws.FnExactDropHandle", spec := "fnExactDropHandle", apart := false }
def FnExactDropHandleSaid : Prop := fnExactDropHandleRow.holds Try.pinned (OpenSpec.ofChange fnExactDropHandleSpec)

/-- ITS FALSE NEIGHBOUR: 'it returns false'. Refute it at one input. -/
def fnExactDropHandleWrong : ChangeSpec := { name := "fnExactDropHandle", fn := fun _ => fun
  | [d1, d2, d3] => { results := [.lit (.bool false)], args := [d1, d2, d3] }
  | _ => none }
def FnExactDropHandleWrongFalsely : Prop := fnExactDropHandleRow.holds Try.pinned (OpenSpec.ofChange fnExactDropHandleWrong)

/- THE SECOND FORM. 'bulk': how many values and letters a reading holds, each counted each time it is reached (what is shared counts as often as it is met; a slice's spare places count too). A statement '..UptoSaid' is the law's where the arguments, and the package variables that the reading takes, are together of bulk at most 1048576: NARROWER than '..Said'. Prove '..Said' where nothing that the law and all that it calls make is longer than what came in: it says more and counts as full. Else prove '..UptoSaid'. A law counts once. -/
mutual
def uptoBulk {H : Type} : DataW H → Nat
  | .lit (.string bytes) => bytes.length + 1
  | .lit _ => 1
  | .nil => 1
  | .ptr d => uptoBulk d + 1
  | .slice elems spare => uptoBulkAll elems + uptoBulkAll spare + 1
  | .agg parts => uptoBulkAll parts + 1
  | .iface _ d => uptoBulk d + 1
  | .map entries => uptoBulkEntries entries + 1
  | .held _ => 1
def uptoBulkAll {H : Type} : List (DataW H) → Nat
  | [] => 0
  | d :: r => uptoBulk d + uptoBulkAll r
def uptoBulkEntries {H : Type} : List (Lit × DataW H) → Nat
  | [] => 0
  | x :: r => uptoBulkEntry x + uptoBulkEntries r
def uptoBulkEntry {H : Type} : Lit × DataW H → Nat
  | (.string bytes, d) => bytes.length + uptoBulk d + 1
  | (_, d) => uptoBulk d + 1
 end
def uptoSmall : (H : Type) → List (DataW H) → Bool := fun _ ds => decide (uptoBulkAll ds ≤ 1048576)
def OpenSpec.upto (s : _root_.Go.ChangeSpec) : _root_.Go.OpenSpec := { _root_.Go.OpenSpec.ofChange s with cond := some uptoSmall }

/-- 'laws.FnExactGoodTable', WHERE WHAT IT READS IS OF BULK AT MOST 1048576: true; the input reads as it did. -/
def fnExactGoodTableUptoRow : OpenClaim := { program := "ytfblofcmjplfhaa", sum := "cc8dea880e20189b953f2d16c9afca7c054982767fa9895b0f0f076baf510009", func := "loop.example/g00209/laws.FnExactGoodTable", spec := "fnExactGoodTable", apart := false, narrowed := true }
def FnExactGoodTableUptoSaid : Prop := fnExactGoodTableUptoRow.holds Try.pinned (OpenSpec.upto fnExactGoodTableSpec)

/-- 'laws.FnExactNewHandle', WHERE WHAT IT READS IS OF BULK AT MOST 1048576: true; the input reads as it did. -/
def fnExactNewHandleUptoRow : OpenClaim := { program := "ytfblofcmjplfhaa", sum := "cc8dea880e20189b953f2d16c9afca7c054982767fa9895b0f0f076baf510009", func := "loop.example/g00209/laws.FnExactNewHandle", spec := "fnExactNewHandle", apart := false, narrowed := true }
def FnExactNewHandleUptoSaid : Prop := fnExactNewHandleUptoRow.holds Try.pinned (OpenSpec.upto fnExactNewHandleSpec)

/-- 'laws.FnExactFindHandle', WHERE WHAT IT READS IS OF BULK AT MOST 1048576: true; the input reads as it did. -/
def fnExactFindHandleUptoRow : OpenClaim := { program := "ytfblofcmjplfhaa", sum := "cc8dea880e20189b953f2d16c9afca7c054982767fa9895b0f0f076baf510009", func := "loop.example/g00209/laws.FnExactFindHandle", spec := "fnExactFindHandle", apart := false, narrowed := true }
def FnExactFindHandleUptoSaid : Prop := fnExactFindHandleUptoRow.holds Try.pinned (OpenSpec.upto fnExactFindHandleSpec)

/-- 'laws.FnExactLendHandle', WHERE WHAT IT READS IS OF BULK AT MOST 1048576: true; the input reads as it did. -/
def fnExactLendHandleUptoRow : OpenClaim := { program := "ytfblofcmjplfhaa", sum := "cc8dea880e20189b953f2d16c9afca7c054982767fa9895b0f0f076baf510009", func := "loop.example/g00209/laws.FnExactLendHandle", spec := "fnExactLendHandle", apart := false, narrowed := true }
def FnExactLendHandleUptoSaid : Prop := fnExactLendHandleUptoRow.holds Try.pinned (OpenSpec.upto fnExactLendHandleSpec)

/-- 'laws.FnExactReturnHandle', WHERE WHAT IT READS IS OF BULK AT MOST 1048576: true; the input reads as it did. -/
def fnExactReturnHandleUptoRow : OpenClaim := { program := "ytfblofcmjplfhaa", sum := "cc8dea880e20189b953f2d16c9afca7c054982767fa9895b0f0f076baf510009", func := "loop.example/g00209/laws.FnExactReturnHandle", spec := "fnExactReturnHandle", apart := false, narrowed := true }
def FnExactReturnHandleUptoSaid : Prop := fnExactReturnHandleUptoRow.holds Try.pinned (OpenSpec.upto fnExactReturnHandleSpec)

/-- 'laws.FnExactDropHandle', WHERE WHAT IT READS IS OF BULK AT MOST 1048576: true; the input reads as it did. -/
def fnExactDropHandleUptoRow : OpenClaim := { program := "ytfblofcmjplfhaa", sum := "cc8dea880e20189b953f2d16c9afca7c054982767fa9895b0f0f076baf510009", func := "loop.example/g00209/laws.FnExactDropHandle", spec := "fnExactDropHandle", apart := false, narrowed := true }
def FnExactDropHandleUptoSaid : Prop := fnExactDropHandleUptoRow.holds Try.pinned (OpenSpec.upto fnExactDropHandleSpec)

end Rows
end Go.Proofs.Ytfblofcmjplfhaa
