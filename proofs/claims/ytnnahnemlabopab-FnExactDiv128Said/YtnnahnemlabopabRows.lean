/-
  No cell of these rows narrows 'for every input' (looked for: loops, veiled, ifaces, maps, wideKeys, modest, calm, conditions, laid).
  DERIVED. THE GIVEN ROWS OF THIS SEAT. 2 by the template 'for every input the law returns true; each argument reads behind the call as it read before'; 0 by the template 'total and deterministic' (their statements: YtnnahnemlabopabTotals.lean).
  GIVEN WITH THE SEED: the statements are not yours to turn. If you find one false, say at which input.
  Laid BY PROGRAM, IN A SANDBOX (cutbox-rows.mjs): the forced cells as the released guide's own fill.sh prints them over the translation ea2bcead98fe081f… (all of the seat's roots in one cut). By AI agents, Wed Nov 11 2026. No macro, syntax, notation, axiom, sorry.
-/
import Derived.Test.YtnnahnemlabopabChecked
import GoSem.Claim
import GoSem.ClaimJoined
import GoSem.ClaimMapViews
import Derived.JoinedTies
import Derived.KernelRfl
namespace Go.Proofs.Ytnnahnemlabopab
/- THE CELL 'sum', in the pinned program and in every row, IS THE sha256 OF THE DUMP (.gsa) THAT YtnnahnemlabopabProg.lean LOADS. Nothing in Lean hashes anything: it is a label: what it is worth is what the hold of that sum in a sandbox is worth. -/
noncomputable def Try.pinned : Pinned := { name := "ytnnahnemlabopab", sum := "ea2bcead98fe081fdd25d32cd7b10664fe87d6dc4a6c2213fa1bf9a1b6812912", checked := Try.checked }
namespace Rows
def none {H : Type} : Left H := { results := [], args := [] }

/-- 'laws.FnExactMul128': WHATEVER THE INPUT: true; the input reads as it did. -/
def fnExactMul128Spec : ChangeSpec := { name := "fnExactMul128", fn := fun _ => fun
  | [d1, d2] => { results := [.lit (.bool true)], args := [d1, d2] }
  | _ => none }
def fnExactMul128Row : OpenClaim := { program := "ytnnahnemlabopab", sum := "ea2bcead98fe081fdd25d32cd7b10664fe87d6dc4a6c2213fa1bf9a1b6812912", func := "loop.example/g00209/laws.FnExactMul128", spec := "fnExactMul128", apart := false }
def FnExactMul128Said : Prop := fnExactMul128Row.holds Try.pinned (OpenSpec.ofChange fnExactMul128Spec)

/-- ITS FALSE NEIGHBOUR: 'it returns false'. Refute it at one input. -/
def fnExactMul128Wrong : ChangeSpec := { name := "fnExactMul128", fn := fun _ => fun
  | [d1, d2] => { results := [.lit (.bool false)], args := [d1, d2] }
  | _ => none }
def FnExactMul128WrongFalsely : Prop := fnExactMul128Row.holds Try.pinned (OpenSpec.ofChange fnExactMul128Wrong)

/-- 'laws.FnExactDiv128': WHATEVER THE INPUT: true; the input reads as it did. -/
def fnExactDiv128Spec : ChangeSpec := { name := "fnExactDiv128", fn := fun _ => fun
  | [d1, d2, d3] => { results := [.lit (.bool true)], args := [d1, d2, d3] }
  | _ => none }
def fnExactDiv128Row : OpenClaim := { program := "ytnnahnemlabopab", sum := "ea2bcead98fe081fdd25d32cd7b10664fe87d6dc4a6c2213fa1bf9a1b6812912", func := "loop.example/g00209/laws.FnExactDiv128", spec := "fnExactDiv128", named := ["math/bits.divideError", "math/bits.overflowError"], apart := false }
def FnExactDiv128Said : Prop := fnExactDiv128Row.holds Try.pinned (OpenSpec.ofChange fnExactDiv128Spec)

/-- ITS FALSE NEIGHBOUR: 'it returns false'. Refute it at one input. -/
def fnExactDiv128Wrong : ChangeSpec := { name := "fnExactDiv128", fn := fun _ => fun
  | [d1, d2, d3] => { results := [.lit (.bool false)], args := [d1, d2, d3] }
  | _ => none }
def FnExactDiv128WrongFalsely : Prop := fnExactDiv128Row.holds Try.pinned (OpenSpec.ofChange fnExactDiv128Wrong)

/- THE SECOND FORM. 'bulk': how many values and letters a reading holds, each counted each time it is reached (what is shared counts as often as it is met; a slice's spare places count too). A statement '..UptoSaid' is the law's where the arguments, and the package variables that the reading takes, are together of bulk at most 1048576: NARROWER than '..Said'. Prove '..Said' where nothing that the law and all that it calls make is longer than what came in: it says more and counts as full. Else prove '..UptoSaid'. A law counts once. -/
mutual
def uptoBulk {H : Type} : DataW H → Nat
  | .lit (.string bytes) => bytes.length + 1
  | .lit _ => 1
  | .nil => 1
  | .ptr d => uptoBulk d + 1
  | .slice elems spare => uptoBulkAll elems + uptoBulkAll spare + 1
  | .agg parts => uptoBulkAll parts + 1
  | .iface _ d => uptoBulk d + 1
  | .map entries => uptoBulkEntries entries + 1
  | .held _ => 1
def uptoBulkAll {H : Type} : List (DataW H) → Nat
  | [] => 0
  | d :: r => uptoBulk d + uptoBulkAll r
def uptoBulkEntries {H : Type} : List (Lit × DataW H) → Nat
  | [] => 0
  | x :: r => uptoBulkEntry x + uptoBulkEntries r
def uptoBulkEntry {H : Type} : Lit × DataW H → Nat
  | (.string bytes, d) => bytes.length + uptoBulk d + 1
  | (_, d) => uptoBulk d + 1
 end
def uptoSmall : (H : Type) → List (DataW H) → Bool := fun _ ds => decide (uptoBulkAll ds ≤ 1048576)
def OpenSpec.upto (s : _root_.Go.ChangeSpec) : _root_.Go.OpenSpec := { _root_.Go.OpenSpec.ofChange s with cond := some uptoSmall }

/-- 'laws.FnExactMul128', WHERE WHAT IT READS IS OF BULK AT MOST 1048576: true; the input reads as it did. -/
def fnExactMul128UptoRow : OpenClaim := { program := "ytnnahnemlabopab", sum := "ea2bcead98fe081fdd25d32cd7b10664fe87d6dc4a6c2213fa1bf9a1b6812912", func := "loop.example/g00209/laws.FnExactMul128", spec := "fnExactMul128", apart := false, narrowed := true }
def FnExactMul128UptoSaid : Prop := fnExactMul128UptoRow.holds Try.pinned (OpenSpec.upto fnExactMul128Spec)

/-- 'laws.FnExactDiv128', WHERE WHAT IT READS IS OF BULK AT MOST 1048576: true; the input reads as it did. -/
def fnExactDiv128UptoRow : OpenClaim := { program := "ytnnahnemlabopab", sum := "ea2bcead98fe081fdd25d32cd7b10664fe87d6dc4a6c2213fa1bf9a1b6812912", func := "loop.example/g00209/laws.FnExactDiv128", spec := "fnExactDiv128", named := ["math/bits.divideError", "math/bits.overflowError"], apart := false, narrowed := true }
def FnExactDiv128UptoSaid : Prop := fnExactDiv128UptoRow.holds Try.pinned (OpenSpec.upto fnExactDiv128Spec)

end Rows
end Go.Proofs.Ytnnahnemlabopab
