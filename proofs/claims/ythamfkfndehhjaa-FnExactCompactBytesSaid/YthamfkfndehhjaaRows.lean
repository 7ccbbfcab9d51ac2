/-
  No cell of these rows narrows 'for every input' (looked for: loops, veiled, ifaces, maps, wideKeys, modest, calm, conditions, laid).
  DERIVED. THE GIVEN ROWS OF THIS SEAT. 4 by the template 'for every input the law returns true; each argument reads behind the call as it read before'; 0 by the template 'total and deterministic' (their statements: YthamfkfndehhjaaTotals.lean).
  GIVEN WITH THE SEED: the statements are not yours to turn. If you find one false, say at which input.
  Laid BY PROGRAM, IN A SANDBOX (cutbox-rows.mjs): the forced cells as the released guide's own fill.sh prints them over the translation 2186230b796c9cf3… (all of the seat's roots in one cut). By AI agents, Wed Nov 11 2026. No macro, syntax, notation, axiom, sorry.
-/
import Derived.Test.YthamfkfndehhjaaChecked
import GoSem.Claim
import GoSem.ClaimJoined
import GoSem.ClaimMapViews
import Derived.JoinedTies
import Derived.KernelRfl
namespace Go.Proofs.Ythamfkfndehhjaa
/- THE CELL 'sum', in the pinned program and in every row, IS THE sha256 OF THE DUMP (.gsa) THAT YthamfkfndehhjaaProg.lean LOADS. Nothing in Lean hashes anything: it is a label: what it is worth is what the hold of that sum in a sandbox is worth. -/
noncomputable def Try.pinned : Pinned := { name := "ythamfkfndehhjaa", sum := "2186230b796c9cf3036759e31b24e0450b9eaa8f976c4faee812437bce768ca8", checked := Try.checked }
namespace Rows
def none {H : Type} : Left H := { results := [], args := [] }

/-- 'laws.FnExactGoodPoints': WHATEVER THE INPUT: true; the input reads as it did. -/
def fnExactGoodPointsSpec : ChangeSpec := { name := "fnExactGoodPoints", fn := fun _ => fun
  | [d] => { results := [.lit (.bool true)], args := [d] }
  | _ => none }
def fnExactGoodPointsRow : OpenClaim := { program := "ythamfkfndehhjaa", sum := "2186230b796c9cf3036759e31b24e0450b9eaa8f976c4faee812437bce768ca8", func := "loop.example/g00209/laws.FnExactGoodPoints", spec := "fnExactGoodPoints", apart := false }
def FnExactGoodPointsSaid : Prop := fnExactGoodPointsRow.holds Try.pinned (OpenSpec.ofChange fnExactGoodPointsSpec)

/-- ITS FALSE NEIGHBOUR: 'it returns false'. Refute it at one input. -/
def fnExactGoodPointsWrong : ChangeSpec := { name := "fnExactGoodPoints", fn := fun _ => fun
  | [d] => { results := [.lit (.bool false)], args := [d] }
  | _ => none }
def FnExactGoodPointsWrongFalsely : Prop := fnExactGoodPointsRow.holds Try.pinned (OpenSpec.ofChange fnExactGoodPointsWrong)

/-- 'laws.FnExactEncodePoints': WHATEVER THE INPUT: true; the input reads as it did. -/
def fnExactEncodePointsSpec : ChangeSpec := { name := "fnExactEncodePoints", fn := fun _ => fun
  | [d1, d2] => { results := [.lit (.bool true)], args := [d1, d2] }
  | _ => none }
def fnExactEncodePointsRow : OpenClaim := { program := "ythamfkfndehhjaa", sum := "2186230b796c9cf3036759e31b24e0450b9eaa8f976c4faee812437bce768ca8", func := "loop.example/g00209/laws.FnExactEncodePoints", spec := "fnExactEncodePoints", apart := false }
def FnExactEncodePointsSaid : Prop := fnExactEncodePointsRow.holds Try.pinned (OpenSpec.ofChange fnExactEncodePointsSpec)

/-- ITS FALSE NEIGHBOUR: 'it returns false'. Refute it at one input. -/
def fnExactEncodePointsWrong : ChangeSpec := { name := "fnExactEncodePoints", fn := fun _ => fun
  | [d1, d2] => { results := [.lit (.bool false)], args := [d1, d2] }
  | _ => none }
def FnExactEncodePointsWrongFalsely : Prop := fnExactEncodePointsRow.holds Try.pinned (OpenSpec.ofChange fnExactEncodePointsWrong)

/-- 'laws.FnExactSizeAs': WHATEVER THE INPUT: true; the input reads as it did. -/
def fnExactSizeAsSpec : ChangeSpec := { name := "fnExactSizeAs", fn := fun _ => fun
  | [d1, d2] => { results := [.lit (.bool true)], args := [d1, d2] }
  | _ => none }
def fnExactSizeAsRow : OpenClaim := { program := "ythamfkfndehhjaa", sum := "2186230b796c9cf3036759e31b24e0450b9eaa8f976c4faee812437bce768ca8", func := "loop.example/g00209/laws.FnExactSizeAs", spec := "fnExactSizeAs", apart := false }
def FnExactSizeAsSaid : Prop := fnExactSizeAsRow.holds Try.pinned (OpenSpec.ofChange fnExactSizeAsSpec)

/-- ITS FALSE NEIGHBOUR: 'it returns false'. Refute it at one input. -/
def fnExactSizeAsWrong : ChangeSpec := { name := "fnExactSizeAs", fn := fun _ => fun
  | [d1, d2] => { results := [.lit (.bool false)], args := [d1, d2] }
  | _ => none }
def FnExactSizeAsWrongFalsely : Prop := fnExactSizeAsRow.holds Try.pinned (OpenSpec.ofChange fnExactSizeAsWrong)

/-- 'laws.FnExactCompactBytes': WHATEVER THE INPUT: true; the input reads as it did. -/
def fnExactCompactBytesSpec : ChangeSpec := { name := "fnExactCompactBytes", fn := fun _ => fun
  | [d] => { results := [.lit (.bool true)], args := [d] }
  | _ => none }
def fnExactCompactBytesRow : OpenClaim := { program := "ythamfkfndehhjaa", sum := "2186230b796c9cf3036759e31b24e0450b9eaa8f976c4faee812437bce768ca8", func := "loop.example/g00209/laws.FnExactCompactBytes", spec := "fnExactCompactBytes", apart := false }
def FnExactCompactBytesSaid : Prop := fnExactCompactBytesRow.holds Try.pinned (OpenSpec.ofChange fnExactCompactBytesSpec)

/-- ITS FALSE NEIGHBOUR: 'it returns false'. Refute it at one input. -/
def fnExactCompactBytesWrong : ChangeSpec := { name := "fnExactCompactBytes", fn := fun _ => fun
  | [d] => { results := [.lit (.bool false)], args := [d] }
  | _ => none }
def FnExactCompactBytesWrongFalsely : Prop := fnExactCompactBytesRow.holds Try.pinned (OpenSpec.ofChange fnExactCompactBytesWrong)

/- THE SECOND FORM. 'bulk': how many values and letters a reading holds, each counted each time it is reached (what is shared counts as often as it is met; a slice's spare places count too). A statement '..UptoSaid' is the law's where the arguments, and the package variables that the reading takes, are together of bulk at most 1048576: NARROWER than '..Said'. Prove '..Said' where nothing that the law and all that it calls make is longer than what came in: it says more and counts as full. Else prove '..UptoSaid'. A law counts once. -/
mutual
def uptoBulk {H : Type} : DataW H → Nat
  | .lit (.string bytes) => bytes.length + 1
  | .lit _ => 1
  | .nil => 1
  | .ptr d => uptoBulk d + 1
  | .slice elems spare => uptoBulkAll elems + uptoBulkAll spare + 1
  | .agg parts => uptoBulkAll parts + 1
  | .iface _ d => uptoBulk d + 1
  | .map entries => uptoBulkEntries entries + 1
  | .held _ => 1
def uptoBulkAll {H : Type} : List (DataW H) → Nat
  | [] => 0
  | d :: r => uptoBulk d + uptoBulkAll r
def uptoBulkEntries {H : Type} : List (Lit × DataW H) → Nat
  | [] => 0
  | x :: r => uptoBulkEntry x + uptoBulkEntries r
def uptoBulkEntry {H : Type} : Lit × DataW H → Nat
  | (.string bytes, d) => bytes.length + uptoBulk d + 1
  | (_, d) => uptoBulk d + 1
 end
def uptoSmall : (H : Type) → List (DataW H) → Bool := fun _ ds => decide (uptoBulkAll ds ≤ 1048576)
def OpenSpec.upto (s : _root_.Go.ChangeSpec) : _root_.Go.OpenSpec := { _root_.Go.OpenSpec.ofChange s with cond := some uptoSmall }

/-- 'laws.FnExactGoodPoints', WHERE WHAT IT READS IS OF BULK AT MOST 1048576: true; the input reads as it did. -/
def fnExactGoodPointsUptoRow : OpenClaim := { program := "ythamfkfndehhjaa", sum := "2186230b796c9cf3036759e31b24e0450b9eaa8f976c4faee812437bce768ca8", func := "loop.example/g00209/laws.FnExactGoodPoints", spec := "fnExactGoodPoints", apart := false, narrowed := true }
def FnExactGoodPointsUptoSaid : Prop := fnExactGoodPointsUptoRow.holds Try.pinned (OpenSpec.upto fnExactGoodPointsSpec)

/-- 'laws.FnExactEncodePoints', WHERE WHAT IT READS IS OF BULK AT MOST 1048576: true; the input reads as it did. -/
def fnExactEncodePointsUptoRow : OpenClaim := { program := "ythamfkfndehhjaa", sum := "2186230b796c9cf3036759e31b24e0450b9eaa8f976c4faee812437bce768ca8", func := "loop.example/g00209/laws.FnExactEncodePoints", spec := "fnExactEncodePoints", apart := false, narrowed := true }
def FnExactEncodePointsUptoSaid : Prop := fnExactEncodePointsUptoRow.holds Try.pinned (OpenSpec.upto fnExactEncodePointsSpec)

/-- 'laws.FnExactSizeAs', WHERE WHAT IT READS IS OF BULK AT MOST 1048576: true; the input reads as it did. -/
def fnExactSizeAsUptoRow : OpenClaim := { program := "ythamfkfndehhjaa", sum := "2186230b796c9cf3036759e31b24e0450b9eaa8f976c4faee812437bce768ca8", func := "loop.example/g00209/laws.FnExactSizeAs", spec := "fnExactSizeAs", apart := false, narrowed := true }
def FnExactSizeAsUptoSaid : Prop := fnExactSizeAsUptoRow.holds Try.pinned (OpenSpec.upto fnExactSizeAsSpec)

/-- 'laws.FnExactCompactBytes', WHERE WHAT IT READS IS OF BULK AT MOST 1048576: true; the input reads as it did. -/
def fnExactCompactBytesUptoRow : OpenClaim := { program := "ythamfkfndehhjaa", sum := "2186230b796c9cf3036759e31b24e0450b9eaa8f976c4faee812437bce768ca8", func := "loop.example/g00209/laws.FnExactCompactBytes", spec := "fnExactCompactBytes", apart := false, narrowed := true }
def FnExactCompactBytesUptoSaid : Prop := fnExactCompactBytesUptoRow.holds Try.pinned (OpenSpec.upto fnExactCompactBytesSpec)

end Rows
end Go.Proofs.Ythamfkfndehhjaa
