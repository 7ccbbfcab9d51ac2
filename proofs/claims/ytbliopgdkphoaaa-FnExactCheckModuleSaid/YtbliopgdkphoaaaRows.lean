/-
  No cell of these rows narrows 'for every input' (looked for: loops, veiled, ifaces, maps, wideKeys, modest, calm, conditions, laid).
  DERIVED. THE GIVEN ROWS OF THIS SEAT. 6 by the template 'for every input the law returns true; each argument reads behind the call as it read before'; 0 by the template 'total and deterministic' (their statements: YtbliopgdkphoaaaTotals.lean).
  GIVEN WITH THE SEED: the statements are not yours to turn. If you find one false, say at which input.
  Laid BY PROGRAM, IN A SANDBOX (cutbox-rows.mjs): the forced cells as the released guide's own fill.sh prints them over the translation 608b906f2902f3d4… (all of the seat's roots in one cut). By AI agents, Wed Nov 11 2026. No macro, syntax, notation, axiom, sorry.
-/
import Derived.Test.YtbliopgdkphoaaaChecked
import GoSem.Claim
import GoSem.ClaimJoined
import GoSem.ClaimMapViews
import Derived.JoinedTies
import Derived.KernelRfl
namespace Go.Proofs.Ytbliopgdkphoaaa
/- THE CELL 'sum', in the pinned program and in every row, IS THE sha256 OF THE DUMP (.gsa) THAT YtbliopgdkphoaaaProg.lean LOADS. Nothing in Lean hashes anything: it is a label: what it is worth is what the hold of that sum in a sandbox is worth. -/
noncomputable def Try.pinned : Pinned := { name := "ytbliopgdkphoaaa", sum := "608b906f2902f3d46eec5eda22eacc4c7d02c585d623fba6fc6a2b0d9aeb1a4c", checked := Try.checked }
namespace Rows
def none {H : Type} : Left H := { results := [], args := [] }

/-- 'laws.FnExactCheckFunc': WHATEVER THE INPUT: true; the input reads as it did. -/
def fnExactCheckFuncSpec : ChangeSpec := { name := "fnExactCheckFunc", fn := fun _ => fun
  | [d1, d2] => { results := [.lit (.bool true)], args := [d1, d2] }
  | _ => none }
def fnExactCheckFuncRow : OpenClaim := { program := "ytbliopgdkphoaaa", sum := "608b906f2902f3d46eec5eda22eacc4c7d02c585d623fba6fc6a2b0d9aeb1a4c", func := "loop.example/g00209/laws.FnExactCheckFunc", spec := "fnExactCheckFunc", unfollowed := true, recurses := true, apart := false }
def FnExactCheckFuncSaid : Prop := fnExactCheckFuncRow.holds Try.pinned (OpenSpec.ofChange fnExactCheckFuncSpec)

/-- ITS FALSE NEIGHBOUR: 'it returns false'. Refute it at one input. -/
def fnExactCheckFuncWrong : ChangeSpec := { name := "fnExactCheckFunc", fn := fun _ => fun
  | [d1, d2] => { results := [.lit (.bool false)], args := [d1, d2] }
  | _ => none }
def FnExactCheckFuncWrongFalsely : Prop := fnExactCheckFuncRow.holds Try.pinned (OpenSpec.ofChange fnExactCheckFuncWrong)

/-- 'laws.FnExactCheckModule': WHATEVER THE INPUT: true; the input reads as it did. -/
def fnExactCheckModuleSpec : ChangeSpec := { name := "fnExactCheckModule", fn := fun _ => fun
  | [d] => { results := [.lit (.bool true)], args := [d] }
  | _ => none }
def fnExactCheckModuleRow : OpenClaim := { program := "ytbliopgdkphoaaa", sum := "608b906f2902f3d46eec5eda22eacc4c7d02c585d623fba6fc6a2b0d9aeb1a4c", func := "loop.example/g00209/laws.FnExactCheckModule", spec := "fnExactCheckModule", unfollowed := true, recurses := true, apart := false }
def FnExactCheckModuleSaid : Prop := fnExactCheckModuleRow.holds Try.pinned (OpenSpec.ofChange fnExactCheckModuleSpec)

/-- ITS FALSE NEIGHBOUR: 'it returns false'. Refute it at one input. -/
def fnExactCheckModuleWrong : ChangeSpec := { name := "fnExactCheckModule", fn := fun _ => fun
  | [d] => { results := [.lit (.bool false)], args := [d] }
  | _ => none }
def FnExactCheckModuleWrongFalsely : Prop := fnExactCheckModuleRow.holds Try.pinned (OpenSpec.ofChange fnExactCheckModuleWrong)

/-- 'laws.FnExactGoodShape': WHATEVER THE INPUT: true; the input reads as it did. -/
def fnExactGoodShapeSpec : ChangeSpec := { name := "fnExactGoodShape", fn := fun _ => fun
  | [d] => { results := [.lit (.bool true)], args := [d] }
  | _ => none }
def fnExactGoodShapeRow : OpenClaim := { program := "ytbliopgdkphoaaa", sum := "608b906f2902f3d46eec5eda22eacc4c7d02c585d623fba6fc6a2b0d9aeb1a4c", func := "loop.example/g00209/laws.FnExactGoodShape", spec := "fnExactGoodShape", unfollowed := true, recurses := true, apart := false }
def FnExactGoodShapeSaid : Prop := fnExactGoodShapeRow.holds Try.pinned (OpenSpec.ofChange fnExactGoodShapeSpec)

/-- ITS FALSE NEIGHBOUR: 'it returns false'. Refute it at one input. -/
def fnExactGoodShapeWrong : ChangeSpec := { name := "fnExactGoodShape", fn := fun _ => fun
  | [d] => { results := [.lit (.bool false)], args := [d] }
  | _ => none }
def FnExactGoodShapeWrongFalsely : Prop := fnExactGoodShapeRow.holds Try.pinned (OpenSpec.ofChange fnExactGoodShapeWrong)

/-- 'laws.FnExactHighestOf': WHATEVER THE INPUT: true; the input reads as it did. -/
def fnExactHighestOfSpec : ChangeSpec := { name := "fnExactHighestOf", fn := fun _ => fun
  | [d1, d2] => { results := [.lit (.bool true)], args := [d1, d2] }
  | _ => none }
def fnExactHighestOfRow : OpenClaim := { program := "ytbliopgdkphoaaa", sum := "608b906f2902f3d46eec5eda22eacc4c7d02c585d623fba6fc6a2b0d9aeb1a4c", func := "loop.example/g00209/laws.FnExactHighestOf", spec := "fnExactHighestOf", unfollowed := true, recurses := true, apart := false }
def FnExactHighestOfSaid : Prop := fnExactHighestOfRow.holds Try.pinned (OpenSpec.ofChange fnExactHighestOfSpec)

/-- ITS FALSE NEIGHBOUR: 'it returns false'. Refute it at one input. -/
def fnExactHighestOfWrong : ChangeSpec := { name := "fnExactHighestOf", fn := fun _ => fun
  | [d1, d2] => { results := [.lit (.bool false)], args := [d1, d2] }
  | _ => none }
def FnExactHighestOfWrongFalsely : Prop := fnExactHighestOfRow.holds Try.pinned (OpenSpec.ofChange fnExactHighestOfWrong)

/-- 'laws.FnExactFirstState': WHATEVER THE INPUT: true; the input reads as it did. -/
def fnExactFirstStateSpec : ChangeSpec := { name := "fnExactFirstState", fn := fun _ => fun
  | [d] => { results := [.lit (.bool true)], args := [d] }
  | _ => none }
def fnExactFirstStateRow : OpenClaim := { program := "ytbliopgdkphoaaa", sum := "608b906f2902f3d46eec5eda22eacc4c7d02c585d623fba6fc6a2b0d9aeb1a4c", func := "loop.example/g00209/laws.FnExactFirstState", spec := "fnExactFirstState", unfollowed := true, recurses := true, apart := false }
def FnExactFirstStateSaid : Prop := fnExactFirstStateRow.holds Try.pinned (OpenSpec.ofChange fnExactFirstStateSpec)

/-- ITS FALSE NEIGHBOUR: 'it returns false'. Refute it at one input. -/
def fnExactFirstStateWrong : ChangeSpec := { name := "fnExactFirstState", fn := fun _ => fun
  | [d] => { results := [.lit (.bool false)], args := [d] }
  | _ => none }
def FnExactFirstStateWrongFalsely : Prop := fnExactFirstStateRow.holds Try.pinned (OpenSpec.ofChange fnExactFirstStateWrong)

/-- 'laws.FnExactGoodState': WHATEVER THE INPUT: true; the input reads as it did. -/
def fnExactGoodStateSpec : ChangeSpec := { name := "fnExactGoodState", fn := fun _ => fun
  | [d1, d2] => { results := [.lit (.bool true)], args := [d1, d2] }
  | _ => none }
def fnExactGoodStateRow : OpenClaim := { program := "ytbliopgdkphoaaa", sum := "608b906f2902f3d46eec5eda22eacc4c7d02c585d623fba6fc6a2b0d9aeb1a4c", func := "loop.example/g00209/laws.FnExactGoodState", spec := "fnExactGoodState", unfollowed := true, recurses := true, apart := false }
def FnExactGoodStateSaid : Prop := fnExactGoodStateRow.holds Try.pinned (OpenSpec.ofChange fnExactGoodStateSpec)

/-- ITS FALSE NEIGHBOUR: 'it returns false'. Refute it at one input. -/
def fnExactGoodStateWrong : ChangeSpec := { name := "fnExactGoodState", fn := fun _ => fun
  | [d1, d2] => { results := [.lit (.bool false)], args := [d1, d2] }
  | _ => none }
def FnExactGoodStateWrongFalsely : Prop := fnExactGoodStateRow.holds Try.pinned (OpenSpec.ofChange fnExactGoodStateWrong)

/- THE SECOND FORM. 'bulk': how many values and letters a reading holds, each counted each time it is reached (what is shared counts as often as it is met; a slice's spare places count too). A statement '..UptoSaid' is the law's where the arguments, and the package variables that the reading takes, are together of bulk at most 1048576: NARROWER than '..Said'. Prove '..Said' where nothing that the law and all that it calls make is longer than what came in: it says more and counts as full. Else prove '..UptoSaid'. A law counts once. -/
mutual
def uptoBulk {H : Type} : DataW H → Nat
  | .lit (.string bytes) => bytes.length + 1
  | .lit _ => 1
  | .nil => 1
  | .ptr d => uptoBulk d + 1
  | .slice elems spare => uptoBulkAll elems + uptoBulkAll spare + 1
  | .agg parts => uptoBulkAll parts + 1
  | .iface _ d => uptoBulk d + 1
  | .map entries => uptoBulkEntries entries + 1
  | .held _ => 1
def uptoBulkAll {H : Type} : List (DataW H) → Nat
  | [] => 0
  | d :: r => uptoBulk d + uptoBulkAll r
def uptoBulkEntries {H : Type} : List (Lit × DataW H) → Nat
  | [] => 0
  | x :: r => uptoBulkEntry x + uptoBulkEntries r
def uptoBulkEntry {H : Type} : Lit × DataW H → Nat
  | (.string bytes, d) => bytes.length + uptoBulk d + 1
  | (_, d) => uptoBulk d + 1
 end
def uptoSmall : (H : Type) → List (DataW H) → Bool := fun _ ds => decide (uptoBulkAll ds ≤ 1048576)
def OpenSpec.upto (s : _root_.Go.ChangeSpec) : _root_.Go.OpenSpec := { _root_.Go.OpenSpec.ofChange s with cond := some uptoSmall }

/-- 'laws.FnExactCheckFunc', WHERE WHAT IT READS IS OF BULK AT MOST 1048576: true; the input reads as it did. -/
def fnExactCheckFuncUptoRow : OpenClaim := { program := "ytbliopgdkphoaaa", sum := "608b906f2902f3d46eec5eda22eacc4c7d02c585d623fba6fc6a2b0d9aeb1a4c", func := "loop.example/g00209/laws.FnExactCheckFunc", spec := "fnExactCheckFunc", unfollowed := true, recurses := true, apart := false, narrowed := true }
def FnExactCheckFuncUptoSaid : Prop := fnExactCheckFuncUptoRow.holds Try.pinned (OpenSpec.upto fnExactCheckFuncSpec)

/-- 'laws.FnExactCheckModule', WHERE WHAT IT READS IS OF BULK AT MOST 1048576: true; the input reads as it did. -/
def fnExactCheckModuleUptoRow : OpenClaim := { program := "ytbliopgdkphoaaa", sum := "608b906f2902f3d46eec5eda22eacc4c7d02c585d623fba6fc6a2b0d9aeb1a4c", func := "loop.example/g00209/laws.FnExactCheckModule", spec := "fnExactCheckModule", unfollowed := true, recurses := true, apart := false, narrowed := true }
def FnExactCheckModuleUptoSaid : Prop := fnExactCheckModuleUptoRow.holds Try.pinned (OpenSpec.upto fnExactCheckModuleSpec)

/-- 'laws.FnExactGoodShape', WHERE WHAT IT READS IS OF BULK AT MOST 1048576: true; the input reads as it did. -/
def fnExactGoodShapeUptoRow : OpenClaim := { program := "ytbliopgdkphoaaa", sum := "608b906f2902f3d46eec5eda22eacc4c7d02c585d623fba6fc6a2b0d9aeb1a4c", func := "loop.example/g00209/laws.FnExactGoodShape", spec := "fnExactGoodShape", unfollowed := true, recurses := true, apart := false, narrowed := true }
def FnExactGoodShapeUptoSaid : Prop := fnExactGoodShapeUptoRow.holds Try.pinned (OpenSpec.upto fnExactGoodShapeSpec)

/-- 'laws.FnExactHighestOf', WHERE WHAT IT READS IS OF BULK AT MOST 1048576: true; the input reads as it did. -/
def fnExactHighestOfUptoRow : OpenClaim := { program := "ytbliopgdkphoaaa", sum := "608b906f2902f3d46eec5eda22eacc4c7d02c585d623fba6fc6a2b0d9aeb1a4c", func := "loop.example/g00209/laws.FnExactHighestOf", spec := "fnExactHighestOf", unfollowed := true, recurses := true, apart := false, narrowed := true }
def FnExactHighestOfUptoSaid : Prop := fnExactHighestOfUptoRow.holds Try.pinned (OpenSpec.upto fnExactHighestOfSpec)

/-- 'laws.FnExactFirstState', WHERE WHAT IT READS IS OF BULK AT MOST 1048576: true; the input reads as it did. -/
def fnExactFirstStateUptoRow : OpenClaim := { program := "ytbliopgdkphoaaa", sum := "608b906f2902f3d46eec5eda22eacc4c7d02c585d623fba6fc6a2b0d9aeb1a4c", func := "loop.example/g00209/laws.FnExactFirstState", spec := "fnExactFirstState", unfollowed := true, recurses := true, apart := false, narrowed := true }
def FnExactFirstStateUptoSaid : Prop := fnExactFirstStateUptoRow.holds Try.pinned (OpenSpec.upto fnExactFirstStateSpec)

/-- 'laws.FnExactGoodState', WHERE WHAT IT READS IS OF BULK AT MOST 1048576: true; the input reads as it did. -/
def fnExactGoodStateUptoRow : OpenClaim := { program := "ytbliopgdkphoaaa", sum := "608b906f2902f3d46eec5eda22eacc4c7d02c585d623fba6fc6a2b0d9aeb1a4c", func := "loop.example/g00209/laws.FnExactGoodState", spec := "fnExactGoodState", unfollowed := true, recurses := true, apart := false, narrowed := true }
def FnExactGoodStateUptoSaid : Prop := fnExactGoodStateUptoRow.holds Try.pinned (OpenSpec.upto fnExactGoodStateSpec)

end Rows
end Go.Proofs.Ytbliopgdkphoaaa
