/-
  NARROWER THAN 'FOR EVERY INPUT', by the rows' own cells (each row's printed sentence says how): FnExactFitsType: laid · FnExactZeroOf: laid · FnExactCountIn: laid · FnExactSameValue: laid.
  DERIVED. THE GIVEN ROWS OF THIS SEAT. 4 by the template 'for every input the law returns true; each argument reads behind the call as it read before'; 0 by the template 'total and deterministic' (their statements: YtlimlpidbjkofaaDoorTotals.lean).
  GIVEN WITH THE SEED: the statements are not yours to turn. If you find one false, say at which input.
  Laid BY PROGRAM, IN A SANDBOX (cutbox-rows.mjs): the forced cells as the released guide's own fill.sh prints them over the translation 54e2f37509e3c9a9… (all of the seat's roots in one cut). By AI agents, Wed Nov 11 2026. No macro, syntax, notation, axiom, sorry.
-/
import Derived.Test.YtlimlpidbjkofaaDoorChecked
import GoSem.PinnedTables
import GoSem.Claim
import GoSem.ClaimJoined
import GoSem.ClaimMapViews
import Derived.JoinedTies
import Derived.KernelRfl
namespace Go.Proofs.YtlimlpidbjkofaaDoor
/- THE CELL 'sum', in the pinned program and in every row, IS THE sha256 OF THE DUMP (.gsa) THAT YtlimlpidbjkofaaDoorProg.lean LOADS. Nothing in Lean hashes anything: it is a label: what it is worth is what the hold of that sum in a sandbox is worth. -/
noncomputable def Tryd.pinned : Pinned := { name := "ytlimlpidbjkofaadoor", sum := "54e2f37509e3c9a9a7e17e1ac0c0daadcbd31d908b1937c4d893cdb7061bf25c", checked := Tryd.checked }
namespace Rows
def none {H : Type} : Left H := { results := [], args := [] }

/- WHAT THE LISTED PACKAGE-LEVEL VARIABLES READ AS WHEN THE CALL BEGINS. Each datum BY PROGRAM (the guide's laid-datum.mjs) off the statement by which the dump's own 'gosem.cut.vars' lays the variable. In a bare row this is a premise. The card (YtlimlpidbjkofaaDoorCards.lean) ties it to the program's text. -/
def laid_unicode_utf8_acceptRanges {H : Type} : DataW H := .agg [.agg [.lit (.int .u8 128), .lit (.int .u8 191)], .agg [.lit (.int .u8 160), .lit (.int .u8 191)], .agg [.lit (.int .u8 128), .lit (.int .u8 159)], .agg [.lit (.int .u8 144), .lit (.int .u8 191)], .agg [.lit (.int .u8 128), .lit (.int .u8 143)], .agg [.lit (.int .u8 0), .lit (.int .u8 0)], .agg [.lit (.int .u8 0), .lit (.int .u8 0)], .agg [.lit (.int .u8 0), .lit (.int .u8 0)], .agg [.lit (.int .u8 0), .lit (.int .u8 0)], .agg [.lit (.int .u8 0), .lit (.int .u8 0)], .agg [.lit (.int .u8 0), .lit (.int .u8 0)], .agg [.lit (.int .u8 0), .lit (.int .u8 0)], .agg [.lit (.int .u8 0), .lit (.int .u8 0)], .agg [.lit (.int .u8 0), .lit (.int .u8 0)], .agg [.lit (.int .u8 0), .lit (.int .u8 0)], .agg [.lit (.int .u8 0), .lit (.int .u8 0)]]
def laid_loop_example_g00209_impl_kindRows {H : Type} : DataW H := .agg [.agg [.lit (.string []), .lit (.int .i64 0), .lit (.int .i64 0), .lit (.int .i64 0), .lit (.int .i64 0), .agg [.lit (.int .i64 0), .lit (.int .i64 0)]], .agg [.lit (.string [98, 111, 111, 108]), .lit (.int .i64 0), .lit (.int .i64 0), .lit (.int .i64 0), .lit (.int .i64 0), .agg [.lit (.int .i64 1), .lit (.int .i64 1)]], .agg [.lit (.string [117, 56]), .lit (.int .i64 0), .lit (.int .i64 0), .lit (.int .i64 0), .lit (.int .i64 0), .agg [.lit (.int .i64 1), .lit (.int .i64 1)]], .agg [.lit (.string [115, 56]), .lit (.int .i64 0), .lit (.int .i64 0), .lit (.int .i64 0), .lit (.int .i64 0), .agg [.lit (.int .i64 1), .lit (.int .i64 1)]], .agg [.lit (.string [117, 49, 54]), .lit (.int .i64 0), .lit (.int .i64 0), .lit (.int .i64 0), .lit (.int .i64 0), .agg [.lit (.int .i64 2), .lit (.int .i64 2)]], .agg [.lit (.string [115, 49, 54]), .lit (.int .i64 0), .lit (.int .i64 0), .lit (.int .i64 0), .lit (.int .i64 0), .agg [.lit (.int .i64 2), .lit (.int .i64 2)]], .agg [.lit (.string [117, 51, 50]), .lit (.int .i64 0), .lit (.int .i64 0), .lit (.int .i64 0), .lit (.int .i64 0), .agg [.lit (.int .i64 4), .lit (.int .i64 4)]], .agg [.lit (.string [115, 51, 50]), .lit (.int .i64 0), .lit (.int .i64 0), .lit (.int .i64 0), .lit (.int .i64 0), .agg [.lit (.int .i64 4), .lit (.int .i64 4)]], .agg [.lit (.string [117, 54, 52]), .lit (.int .i64 0), .lit (.int .i64 0), .lit (.int .i64 0), .lit (.int .i64 0), .agg [.lit (.int .i64 8), .lit (.int .i64 8)]], .agg [.lit (.string [115, 54, 52]), .lit (.int .i64 0), .lit (.int .i64 0), .lit (.int .i64 0), .lit (.int .i64 0), .agg [.lit (.int .i64 8), .lit (.int .i64 8)]], .agg [.lit (.string [102, 51, 50]), .lit (.int .i64 0), .lit (.int .i64 0), .lit (.int .i64 0), .lit (.int .i64 0), .agg [.lit (.int .i64 4), .lit (.int .i64 4)]], .agg [.lit (.string [99, 104, 97, 114]), .lit (.int .i64 0), .lit (.int .i64 0), .lit (.int .i64 0), .lit (.int .i64 0), .agg [.lit (.int .i64 4), .lit (.int .i64 4)]], .agg [.lit (.string [115, 116, 114, 105, 110, 103]), .lit (.int .i64 0), .lit (.int .i64 0), .lit (.int .i64 0), .lit (.int .i64 0), .agg [.lit (.int .i64 8), .lit (.int .i64 4)]], .agg [.lit (.string [108, 105, 115, 116]), .lit (.int .i64 1), .lit (.int .i64 1), .lit (.int .i64 0), .lit (.int .i64 0), .agg [.lit (.int .i64 8), .lit (.int .i64 4)]], .agg [.lit (.string [114, 101, 99, 111, 114, 100]), .lit (.int .i64 1), .lit (.int .i64 8), .lit (.int .i64 0), .lit (.int .i64 0), .agg [.lit (.int .i64 0), .lit (.int .i64 0)]], .agg [.lit (.string [118, 97, 114, 105, 97, 110, 116]), .lit (.int .i64 1), .lit (.int .i64 8), .lit (.int .i64 0), .lit (.int .i64 0), .agg [.lit (.int .i64 0), .lit (.int .i64 0)]], .agg [.lit (.string [102, 108, 97, 103, 115]), .lit (.int .i64 0), .lit (.int .i64 0), .lit (.int .i64 1), .lit (.int .i64 32), .agg [.lit (.int .i64 0), .lit (.int .i64 0)]], .agg [.lit (.string [111, 112, 116, 105, 111, 110]), .lit (.int .i64 1), .lit (.int .i64 1), .lit (.int .i64 0), .lit (.int .i64 0), .agg [.lit (.int .i64 0), .lit (.int .i64 0)]], .agg [.lit (.string [114, 101, 115, 117, 108, 116]), .lit (.int .i64 2), .lit (.int .i64 2), .lit (.int .i64 0), .lit (.int .i64 0), .agg [.lit (.int .i64 0), .lit (.int .i64 0)]], .agg [.lit (.string [101, 110, 117, 109]), .lit (.int .i64 0), .lit (.int .i64 0), .lit (.int .i64 1), .lit (.int .i64 300), .agg [.lit (.int .i64 0), .lit (.int .i64 0)]], .agg [.lit (.string [111, 119, 110]), .lit (.int .i64 0), .lit (.int .i64 0), .lit (.int .i64 0), .lit (.int .i64 9), .agg [.lit (.int .i64 4), .lit (.int .i64 4)]], .agg [.lit (.string [98, 111, 114, 114, 111, 119]), .lit (.int .i64 0), .lit (.int .i64 0), .lit (.int .i64 0), .lit (.int .i64 9), .agg [.lit (.int .i64 4), .lit (.int .i64 4)]]]
def laid_loop_example_g00209_impl_kindBounds {H : Type} : DataW H := .agg [.agg [.lit (.int .i64 0), .lit (.int .i64 0)], .agg [.lit (.int .i64 0), .lit (.int .i64 1)], .agg [.lit (.int .i64 0), .lit (.int .i64 255)], .agg [.lit (.int .i64 (-128)), .lit (.int .i64 127)], .agg [.lit (.int .i64 0), .lit (.int .i64 65535)], .agg [.lit (.int .i64 (-32768)), .lit (.int .i64 32767)], .agg [.lit (.int .i64 0), .lit (.int .i64 4294967295)], .agg [.lit (.int .i64 (-2147483648)), .lit (.int .i64 2147483647)], .agg [.lit (.int .i64 (-9223372036854775808)), .lit (.int .i64 9223372036854775807)], .agg [.lit (.int .i64 (-9223372036854775808)), .lit (.int .i64 9223372036854775807)], .agg [.lit (.int .i64 0), .lit (.int .i64 4294967295)], .agg [.lit (.int .i64 0), .lit (.int .i64 1114111)], .agg [.lit (.int .i64 0), .lit (.int .i64 0)], .agg [.lit (.int .i64 0), .lit (.int .i64 0)], .agg [.lit (.int .i64 0), .lit (.int .i64 0)], .agg [.lit (.int .i64 0), .lit (.int .i64 0)], .agg [.lit (.int .i64 0), .lit (.int .i64 0)], .agg [.lit (.int .i64 0), .lit (.int .i64 1)], .agg [.lit (.int .i64 0), .lit (.int .i64 1)], .agg [.lit (.int .i64 0), .lit (.int .i64 0)], .agg [.lit (.int .i64 0), .lit (.int .i64 100000)], .agg [.lit (.int .i64 0), .lit (.int .i64 100000)]]
/-- One of Go's own tables, pinned by name: the form's constant. -/
def laid_unicode_utf8_first : DataW Unit := Go.Pinned.utf8First

/-- 'laws.FnExactFitsType': WHATEVER THE INPUT: true; the input reads as it did. -/
def fnExactFitsTypeSpec : ChangeSpec := { name := "fnExactFitsType", vars := ["loop.example/g00209/impl.kindRows", "loop.example/g00209/impl.kindBounds"], fn := fun _ => fun
  | [d1, d2, g1, g2] => { results := [.lit (.bool true)], args := [d1, d2], vars := [g1, g2] }
  | _ => none }
def fnExactFitsTypeRow : OpenClaim := { program := "ytlimlpidbjkofaadoor", sum := "54e2f37509e3c9a9a7e17e1ac0c0daadcbd31d908b1937c4d893cdb7061bf25c", func := "loop.example/g00209/laws.FnExactFitsType", spec := "fnExactFitsType", unfollowed := true, recurses := true, named := ["loop.example/g00209/impl.kindRows", "loop.example/g00209/impl.kindBounds", "unicode/utf8.first", "unicode/utf8.acceptRanges"], apart := false, laid := [("unicode/utf8.acceptRanges", laid_unicode_utf8_acceptRanges), ("loop.example/g00209/impl.kindRows", laid_loop_example_g00209_impl_kindRows), ("loop.example/g00209/impl.kindBounds", laid_loop_example_g00209_impl_kindBounds), ("unicode/utf8.first", laid_unicode_utf8_first)] }
def FnExactFitsTypeSaid : Prop := fnExactFitsTypeRow.holds Tryd.pinned (OpenSpec.ofChange fnExactFitsTypeSpec)

/-- ITS FALSE NEIGHBOUR: 'it returns false'. Refute it at one input. -/
def fnExactFitsTypeWrong : ChangeSpec := { name := "fnExactFitsType", vars := ["loop.example/g00209/impl.kindRows", "loop.example/g00209/impl.kindBounds"], fn := fun _ => fun
  | [d1, d2, g1, g2] => { results := [.lit (.bool false)], args := [d1, d2], vars := [g1, g2] }
  | _ => none }
def FnExactFitsTypeWrongFalsely : Prop := fnExactFitsTypeRow.holds Tryd.pinned (OpenSpec.ofChange fnExactFitsTypeWrong)

/-- 'laws.FnExactZeroOf': WHATEVER THE INPUT: true; the input reads as it did. -/
def fnExactZeroOfSpec : ChangeSpec := { name := "fnExactZeroOf", vars := ["loop.example/g00209/impl.kindRows"], fn := fun _ => fun
  | [d, g1] => { results := [.lit (.bool true)], args := [d], vars := [g1] }
  | _ => none }
def fnExactZeroOfRow : OpenClaim := { program := "ytlimlpidbjkofaadoor", sum := "54e2f37509e3c9a9a7e17e1ac0c0daadcbd31d908b1937c4d893cdb7061bf25c", func := "loop.example/g00209/laws.FnExactZeroOf", spec := "fnExactZeroOf", unfollowed := true, recurses := true, named := ["loop.example/g00209/impl.kindRows"], apart := false, laid := [("loop.example/g00209/impl.kindRows", laid_loop_example_g00209_impl_kindRows)] }
def FnExactZeroOfSaid : Prop := fnExactZeroOfRow.holds Tryd.pinned (OpenSpec.ofChange fnExactZeroOfSpec)

/-- ITS FALSE NEIGHBOUR: 'it returns false'. Refute it at one input. -/
def fnExactZeroOfWrong : ChangeSpec := { name := "fnExactZeroOf", vars := ["loop.example/g00209/impl.kindRows"], fn := fun _ => fun
  | [d, g1] => { results := [.lit (.bool false)], args := [d], vars := [g1] }
  | _ => none }
def FnExactZeroOfWrongFalsely : Prop := fnExactZeroOfRow.holds Tryd.pinned (OpenSpec.ofChange fnExactZeroOfWrong)

/-- 'laws.FnExactCountIn': WHATEVER THE INPUT: true; the input reads as it did. -/
def fnExactCountInSpec : ChangeSpec := { name := "fnExactCountIn", vars := ["loop.example/g00209/impl.kindRows", "loop.example/g00209/impl.kindBounds"], fn := fun _ => fun
  | [d1, d2, g1, g2] => { results := [.lit (.bool true)], args := [d1, d2], vars := [g1, g2] }
  | _ => none }
def fnExactCountInRow : OpenClaim := { program := "ytlimlpidbjkofaadoor", sum := "54e2f37509e3c9a9a7e17e1ac0c0daadcbd31d908b1937c4d893cdb7061bf25c", func := "loop.example/g00209/laws.FnExactCountIn", spec := "fnExactCountIn", unfollowed := true, recurses := true, named := ["loop.example/g00209/impl.kindRows", "loop.example/g00209/impl.kindBounds", "unicode/utf8.first", "unicode/utf8.acceptRanges"], apart := false, laid := [("unicode/utf8.acceptRanges", laid_unicode_utf8_acceptRanges), ("loop.example/g00209/impl.kindRows", laid_loop_example_g00209_impl_kindRows), ("loop.example/g00209/impl.kindBounds", laid_loop_example_g00209_impl_kindBounds), ("unicode/utf8.first", laid_unicode_utf8_first)] }
def FnExactCountInSaid : Prop := fnExactCountInRow.holds Tryd.pinned (OpenSpec.ofChange fnExactCountInSpec)

/-- ITS FALSE NEIGHBOUR: 'it returns false'. Refute it at one input. -/
def fnExactCountInWrong : ChangeSpec := { name := "fnExactCountIn", vars := ["loop.example/g00209/impl.kindRows", "loop.example/g00209/impl.kindBounds"], fn := fun _ => fun
  | [d1, d2, g1, g2] => { results := [.lit (.bool false)], args := [d1, d2], vars := [g1, g2] }
  | _ => none }
def FnExactCountInWrongFalsely : Prop := fnExactCountInRow.holds Tryd.pinned (OpenSpec.ofChange fnExactCountInWrong)

/-- 'laws.FnExactSameValue': WHATEVER THE INPUT: true; the input reads as it did. -/
def fnExactSameValueSpec : ChangeSpec := { name := "fnExactSameValue", vars := ["loop.example/g00209/impl.kindRows", "loop.example/g00209/impl.kindBounds"], fn := fun _ => fun
  | [d1, d2, d3, g1, g2] => { results := [.lit (.bool true)], args := [d1, d2, d3], vars := [g1, g2] }
  | _ => none }
def fnExactSameValueRow : OpenClaim := { program := "ytlimlpidbjkofaadoor", sum := "54e2f37509e3c9a9a7e17e1ac0c0daadcbd31d908b1937c4d893cdb7061bf25c", func := "loop.example/g00209/laws.FnExactSameValue", spec := "fnExactSameValue", unfollowed := true, recurses := true, named := ["loop.example/g00209/impl.kindRows", "loop.example/g00209/impl.kindBounds", "unicode/utf8.first", "unicode/utf8.acceptRanges"], apart := false, laid := [("unicode/utf8.acceptRanges", laid_unicode_utf8_acceptRanges), ("loop.example/g00209/impl.kindRows", laid_loop_example_g00209_impl_kindRows), ("loop.example/g00209/impl.kindBounds", laid_loop_example_g00209_impl_kindBounds), ("unicode/utf8.first", laid_unicode_utf8_first)] }
def FnExactSameValueSaid : Prop := fnExactSameValueRow.holds Tryd.pinned (OpenSpec.ofChange fnExactSameValueSpec)

/-- ITS FALSE NEIGHBOUR: 'it returns false'. Refute it at one input. -/
def fnExactSameValueWrong : ChangeSpec := { name := "fnExactSameValue", vars := ["loop.example/g00209/impl.kindRows", "loop.example/g00209/impl.kindBounds"], fn := fun _ => fun
  | [d1, d2, d3, g1, g2] => { results := [.lit (.bool false)], args := [d1, d2, d3], vars := [g1, g2] }
  | _ => none }
def FnExactSameValueWrongFalsely : Prop := fnExactSameValueRow.holds Tryd.pinned (OpenSpec.ofChange fnExactSameValueWrong)

/- THE SECOND FORM. 'bulk': how many values and letters a reading holds, each counted each time it is reached (what is shared counts as often as it is met; a slice's spare places count too). A statement '..UptoSaid' is the law's where the arguments, and the package variables that the reading takes, are together of bulk at most 1048576: NARROWER than '..Said'. Prove '..Said' where nothing that the law and all that it calls make is longer than what came in: it says more and counts as full. Else prove '..UptoSaid'. A law counts once. -/
mutual
def uptoBulk {H : Type} : DataW H → Nat
  | .lit (.string bytes) => bytes.length + 1
  | .lit _ => 1
  | .nil => 1
  | .ptr d => uptoBulk d + 1
  | .slice elems spare => uptoBulkAll elems + uptoBulkAll spare + 1
  | .agg parts => uptoBulkAll parts + 1
  | .iface _ d => uptoBulk d + 1
  | .map entries => uptoBulkEntries entries + 1
  | .held _ => 1
def uptoBulkAll {H : Type} : List (DataW H) → Nat
  | [] => 0
  | d :: r => uptoBulk d + uptoBulkAll r
def uptoBulkEntries {H : Type} : List (Lit × DataW H) → Nat
  | [] => 0
  | x :: r => uptoBulkEntry x + uptoBulkEntries r
def uptoBulkEntry {H : Type} : Lit × DataW H → Nat
  | (.string bytes, d) => bytes.length + uptoBulk d + 1
  | (_, d) => uptoBulk d + 1
 end
def uptoSmall : (H : Type) → List (DataW H) → Bool := fun _ ds => decide (uptoBulkAll ds ≤ 1048576)
def OpenSpec.upto (s : _root_.Go.ChangeSpec) : _root_.Go.OpenSpec := { _root_.Go.OpenSpec.ofChange s with cond := some uptoSmall }

/-- 'laws.FnExactFitsType', WHERE WHAT IT READS IS OF BULK AT MOST 1048576: true; the input reads as it did. -/
def fnExactFitsTypeUptoRow : OpenClaim := { program := "ytlimlpidbjkofaadoor", sum := "54e2f37509e3c9a9a7e17e1ac0c0daadcbd31d908b1937c4d893cdb7061bf25c", func := "loop.example/g00209/laws.FnExactFitsType", spec := "fnExactFitsType", unfollowed := true, recurses := true, named := ["loop.example/g00209/impl.kindRows", "loop.example/g00209/impl.kindBounds", "unicode/utf8.first", "unicode/utf8.acceptRanges"], apart := false, laid := [("unicode/utf8.acceptRanges", laid_unicode_utf8_acceptRanges), ("loop.example/g00209/impl.kindRows", laid_loop_example_g00209_impl_kindRows), ("loop.example/g00209/impl.kindBounds", laid_loop_example_g00209_impl_kindBounds), ("unicode/utf8.first", laid_unicode_utf8_first)], narrowed := true }
def FnExactFitsTypeUptoSaid : Prop := fnExactFitsTypeUptoRow.holds Tryd.pinned (OpenSpec.upto fnExactFitsTypeSpec)

/-- 'laws.FnExactZeroOf', WHERE WHAT IT READS IS OF BULK AT MOST 1048576: true; the input reads as it did. -/
def fnExactZeroOfUptoRow : OpenClaim := { program := "ytlimlpidbjkofaadoor", sum := "54e2f37509e3c9a9a7e17e1ac0c0daadcbd31d908b1937c4d893cdb7061bf25c", func := "loop.example/g00209/laws.FnExactZeroOf", spec := "fnExactZeroOf", unfollowed := true, recurses := true, named := ["loop.example/g00209/impl.kindRows"], apart := false, laid := [("loop.example/g00209/impl.kindRows", laid_loop_example_g00209_impl_kindRows)], narrowed := true }
def FnExactZeroOfUptoSaid : Prop := fnExactZeroOfUptoRow.holds Tryd.pinned (OpenSpec.upto fnExactZeroOfSpec)

/-- 'laws.FnExactCountIn', WHERE WHAT IT READS IS OF BULK AT MOST 1048576: true; the input reads as it did. -/
def fnExactCountInUptoRow : OpenClaim := { program := "ytlimlpidbjkofaadoor", sum := "54e2f37509e3c9a9a7e17e1ac0c0daadcbd31d908b1937c4d893cdb7061bf25c", func := "loop.example/g00209/laws.FnExactCountIn", spec := "fnExactCountIn", unfollowed := true, recurses := true, named := ["loop.example/g00209/impl.kindRows", "loop.example/g00209/impl.kindBounds", "unicode/utf8.first", "unicode/utf8.acceptRanges"], apart := false, laid := [("unicode/utf8.acceptRanges", laid_unicode_utf8_acceptRanges), ("loop.example/g00209/impl.kindRows", laid_loop_example_g00209_impl_kindRows), ("loop.example/g00209/impl.kindBounds", laid_loop_example_g00209_impl_kindBounds), ("unicode/utf8.first", laid_unicode_utf8_first)], narrowed := true }
def FnExactCountInUptoSaid : Prop := fnExactCountInUptoRow.holds Tryd.pinned (OpenSpec.upto fnExactCountInSpec)

/-- 'laws.FnExactSameValue', WHERE WHAT IT READS IS OF BULK AT MOST 1048576: true; the input reads as it did. -/
def fnExactSameValueUptoRow : OpenClaim := { program := "ytlimlpidbjkofaadoor", sum := "54e2f37509e3c9a9a7e17e1ac0c0daadcbd31d908b1937c4d893cdb7061bf25c", func := "loop.example/g00209/laws.FnExactSameValue", spec := "fnExactSameValue", unfollowed := true, recurses := true, named := ["loop.example/g00209/impl.kindRows", "loop.example/g00209/impl.kindBounds", "unicode/utf8.first", "unicode/utf8.acceptRanges"], apart := false, laid := [("unicode/utf8.acceptRanges", laid_unicode_utf8_acceptRanges), ("loop.example/g00209/impl.kindRows", laid_loop_example_g00209_impl_kindRows), ("loop.example/g00209/impl.kindBounds", laid_loop_example_g00209_impl_kindBounds), ("unicode/utf8.first", laid_unicode_utf8_first)], narrowed := true }
def FnExactSameValueUptoSaid : Prop := fnExactSameValueUptoRow.holds Tryd.pinned (OpenSpec.upto fnExactSameValueSpec)

end Rows
end Go.Proofs.YtlimlpidbjkofaaDoor
