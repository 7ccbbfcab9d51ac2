/-
  NARROWER THAN 'FOR EVERY INPUT', by the rows' own cells (each row's printed sentence says how): FnExactFlatFits: laid.
  DERIVED. THE GIVEN ROWS OF THIS SEAT. 1 by the template 'for every input the law returns true; each argument reads behind the call as it read before'; 0 by the template 'total and deterministic' (their statements: YthoenaoanikppaaDoorTotals.lean).
  GIVEN WITH THE SEED: the statements are not yours to turn. If you find one false, say at which input.
  Laid BY PROGRAM, IN A SANDBOX (cutbox-rows.mjs): the forced cells as the released guide's own fill.sh prints them over the translation 83ed5ad7c0ecab09… (all of the seat's roots in one cut). By AI agents, Wed Nov 11 2026. No macro, syntax, notation, axiom, sorry.
-/
import Derived.Test.YthoenaoanikppaaDoorChecked
import GoSem.Claim
import GoSem.ClaimJoined
import GoSem.ClaimMapViews
import Derived.JoinedTies
import Derived.KernelRfl
namespace Go.Proofs.YthoenaoanikppaaDoor
/- THE CELL 'sum', in the pinned program and in every row, IS THE sha256 OF THE DUMP (.gsa) THAT YthoenaoanikppaaDoorProg.lean LOADS. Nothing in Lean hashes anything: it is a label: what it is worth is what the hold of that sum in a sandbox is worth. -/
noncomputable def Tryd.pinned : Pinned := { name := "ythoenaoanikppaadoor", sum := "83ed5ad7c0ecab09c847518f96f4fcc3490b79e445e5607c487b909243573b84", checked := Tryd.checked }
namespace Rows
def none {H : Type} : Left H := { results := [], args := [] }

/- WHAT THE LISTED PACKAGE-LEVEL VARIABLES READ AS WHEN THE CALL BEGINS. Each datum BY PROGRAM (the guide's laid-datum.mjs) off the statement by which the dump's own 'gosem.cut.vars' lays the variable. In a bare row this is a premise. The card (YthoenaoanikppaaDoorCards.lean) ties it to the program's text. -/
def laid_loop_example_g00209_impl_kindRows {H : Type} : DataW H := .agg [.agg [.lit (.string []), .lit (.int .i64 0), .lit (.int .i64 0), .lit (.int .i64 0), .lit (.int .i64 0), .agg [.lit (.int .i64 0), .lit (.int .i64 0)]], .agg [.lit (.string [98, 111, 111, 108]), .lit (.int .i64 0), .lit (.int .i64 0), .lit (.int .i64 0), .lit (.int .i64 0), .agg [.lit (.int .i64 1), .lit (.int .i64 1)]], .agg [.lit (.string [117, 56]), .lit (.int .i64 0), .lit (.int .i64 0), .lit (.int .i64 0), .lit (.int .i64 0), .agg [.lit (.int .i64 1), .lit (.int .i64 1)]], .agg [.lit (.string [115, 56]), .lit (.int .i64 0), .lit (.int .i64 0), .lit (.int .i64 0), .lit (.int .i64 0), .agg [.lit (.int .i64 1), .lit (.int .i64 1)]], .agg [.lit (.string [117, 49, 54]), .lit (.int .i64 0), .lit (.int .i64 0), .lit (.int .i64 0), .lit (.int .i64 0), .agg [.lit (.int .i64 2), .lit (.int .i64 2)]], .agg [.lit (.string [115, 49, 54]), .lit (.int .i64 0), .lit (.int .i64 0), .lit (.int .i64 0), .lit (.int .i64 0), .agg [.lit (.int .i64 2), .lit (.int .i64 2)]], .agg [.lit (.string [117, 51, 50]), .lit (.int .i64 0), .lit (.int .i64 0), .lit (.int .i64 0), .lit (.int .i64 0), .agg [.lit (.int .i64 4), .lit (.int .i64 4)]], .agg [.lit (.string [115, 51, 50]), .lit (.int .i64 0), .lit (.int .i64 0), .lit (.int .i64 0), .lit (.int .i64 0), .agg [.lit (.int .i64 4), .lit (.int .i64 4)]], .agg [.lit (.string [117, 54, 52]), .lit (.int .i64 0), .lit (.int .i64 0), .lit (.int .i64 0), .lit (.int .i64 0), .agg [.lit (.int .i64 8), .lit (.int .i64 8)]], .agg [.lit (.string [115, 54, 52]), .lit (.int .i64 0), .lit (.int .i64 0), .lit (.int .i64 0), .lit (.int .i64 0), .agg [.lit (.int .i64 8), .lit (.int .i64 8)]], .agg [.lit (.string [102, 51, 50]), .lit (.int .i64 0), .lit (.int .i64 0), .lit (.int .i64 0), .lit (.int .i64 0), .agg [.lit (.int .i64 4), .lit (.int .i64 4)]], .agg [.lit (.string [99, 104, 97, 114]), .lit (.int .i64 0), .lit (.int .i64 0), .lit (.int .i64 0), .lit (.int .i64 0), .agg [.lit (.int .i64 4), .lit (.int .i64 4)]], .agg [.lit (.string [115, 116, 114, 105, 110, 103]), .lit (.int .i64 0), .lit (.int .i64 0), .lit (.int .i64 0), .lit (.int .i64 0), .agg [.lit (.int .i64 8), .lit (.int .i64 4)]], .agg [.lit (.string [108, 105, 115, 116]), .lit (.int .i64 1), .lit (.int .i64 1), .lit (.int .i64 0), .lit (.int .i64 0), .agg [.lit (.int .i64 8), .lit (.int .i64 4)]], .agg [.lit (.string [114, 101, 99, 111, 114, 100]), .lit (.int .i64 1), .lit (.int .i64 8), .lit (.int .i64 0), .lit (.int .i64 0), .agg [.lit (.int .i64 0), .lit (.int .i64 0)]], .agg [.lit (.string [118, 97, 114, 105, 97, 110, 116]), .lit (.int .i64 1), .lit (.int .i64 8), .lit (.int .i64 0), .lit (.int .i64 0), .agg [.lit (.int .i64 0), .lit (.int .i64 0)]], .agg [.lit (.string [102, 108, 97, 103, 115]), .lit (.int .i64 0), .lit (.int .i64 0), .lit (.int .i64 1), .lit (.int .i64 32), .agg [.lit (.int .i64 0), .lit (.int .i64 0)]], .agg [.lit (.string [111, 112, 116, 105, 111, 110]), .lit (.int .i64 1), .lit (.int .i64 1), .lit (.int .i64 0), .lit (.int .i64 0), .agg [.lit (.int .i64 0), .lit (.int .i64 0)]], .agg [.lit (.string [114, 101, 115, 117, 108, 116]), .lit (.int .i64 2), .lit (.int .i64 2), .lit (.int .i64 0), .lit (.int .i64 0), .agg [.lit (.int .i64 0), .lit (.int .i64 0)]], .agg [.lit (.string [101, 110, 117, 109]), .lit (.int .i64 0), .lit (.int .i64 0), .lit (.int .i64 1), .lit (.int .i64 300), .agg [.lit (.int .i64 0), .lit (.int .i64 0)]], .agg [.lit (.string [111, 119, 110]), .lit (.int .i64 0), .lit (.int .i64 0), .lit (.int .i64 0), .lit (.int .i64 9), .agg [.lit (.int .i64 4), .lit (.int .i64 4)]], .agg [.lit (.string [98, 111, 114, 114, 111, 119]), .lit (.int .i64 0), .lit (.int .i64 0), .lit (.int .i64 0), .lit (.int .i64 9), .agg [.lit (.int .i64 4), .lit (.int .i64 4)]]]

/-- 'laws.FnExactFlatFits': WHATEVER THE INPUT: true; the input reads as it did. -/
def fnExactFlatFitsSpec : ChangeSpec := { name := "fnExactFlatFits", vars := ["loop.example/g00209/impl.kindRows"], fn := fun _ => fun
  | [d, g1] => { results := [.lit (.bool true)], args := [d], vars := [g1] }
  | _ => none }
def fnExactFlatFitsRow : OpenClaim := { program := "ythoenaoanikppaadoor", sum := "83ed5ad7c0ecab09c847518f96f4fcc3490b79e445e5607c487b909243573b84", func := "loop.example/g00209/laws.FnExactFlatFits", spec := "fnExactFlatFits", recurses := true, named := ["loop.example/g00209/impl.kindRows"], apart := false, laid := [("loop.example/g00209/impl.kindRows", laid_loop_example_g00209_impl_kindRows)] }
def FnExactFlatFitsSaid : Prop := fnExactFlatFitsRow.holds Tryd.pinned (OpenSpec.ofChange fnExactFlatFitsSpec)

/-- ITS FALSE NEIGHBOUR: 'it returns false'. Refute it at one input. -/
def fnExactFlatFitsWrong : ChangeSpec := { name := "fnExactFlatFits", vars := ["loop.example/g00209/impl.kindRows"], fn := fun _ => fun
  | [d, g1] => { results := [.lit (.bool false)], args := [d], vars := [g1] }
  | _ => none }
def FnExactFlatFitsWrongFalsely : Prop := fnExactFlatFitsRow.holds Tryd.pinned (OpenSpec.ofChange fnExactFlatFitsWrong)

/- THE SECOND FORM. 'bulk': how many values and letters a reading holds, each counted each time it is reached (what is shared counts as often as it is met; a slice's spare places count too). A statement '..UptoSaid' is the law's where the arguments, and the package variables that the reading takes, are together of bulk at most 1048576: NARROWER than '..Said'. Prove '..Said' where nothing that the law and all that it calls make is longer than what came in: it says more and counts as full. Else prove '..UptoSaid'. A law counts once. -/
mutual
def uptoBulk {H : Type} : DataW H → Nat
  | .lit (.string bytes) => bytes.length + 1
  | .lit _ => 1
  | .nil => 1
  | .ptr d => uptoBulk d + 1
  | .slice elems spare => uptoBulkAll elems + uptoBulkAll spare + 1
  | .agg parts => uptoBulkAll parts + 1
  | .iface _ d => uptoBulk d + 1
  | .map entries => uptoBulkEntries entries + 1
  | .held _ => 1
def uptoBulkAll {H : Type} : List (DataW H) → Nat
  | [] => 0
  | d :: r => uptoBulk d + uptoBulkAll r
def uptoBulkEntries {H : Type} : List (Lit × DataW H) → Nat
  | [] => 0
  | x :: r => uptoBulkEntry x + uptoBulkEntries r
def uptoBulkEntry {H : Type} : Lit × DataW H → Nat
  | (.string bytes, d) => bytes.length + uptoBulk d + 1
  | (_, d) => uptoBulk d + 1
 end
def uptoSmall : (H : Type) → List (DataW H) → Bool := fun _ ds => decide (uptoBulkAll ds ≤ 1048576)
def OpenSpec.upto (s : _root_.Go.ChangeSpec) : _root_.Go.OpenSpec := { _root_.Go.OpenSpec.ofChange s with cond := some uptoSmall }

/-- 'laws.FnExactFlatFits', WHERE WHAT IT READS IS OF BULK AT MOST 1048576: true; the input reads as it did. -/
def fnExactFlatFitsUptoRow : OpenClaim := { program := "ythoenaoanikppaadoor", sum := "83ed5ad7c0ecab09c847518f96f4fcc3490b79e445e5607c487b909243573b84", func := "loop.example/g00209/laws.FnExactFlatFits", spec := "fnExactFlatFits", recurses := true, named := ["loop.example/g00209/impl.kindRows"], apart := false, laid := [("loop.example/g00209/impl.kindRows", laid_loop_example_g00209_impl_kindRows)], narrowed := true }
def FnExactFlatFitsUptoSaid : Prop := fnExactFlatFitsUptoRow.holds Tryd.pinned (OpenSpec.upto fnExactFlatFitsSpec)

end Rows
end Go.Proofs.YthoenaoanikppaaDoor
