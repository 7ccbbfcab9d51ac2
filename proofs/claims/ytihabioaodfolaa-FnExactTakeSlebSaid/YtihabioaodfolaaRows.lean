/-
  No cell of these rows narrows 'for every input' (looked for: loops, veiled, ifaces, maps, wideKeys, modest, calm, conditions, laid).
  DERIVED. THE GIVEN ROWS OF THIS SEAT. 6 by the template 'for every input the law returns true; each argument reads behind the call as it read before'; 0 by the template 'total and deterministic' (their statements: YtihabioaodfolaaTotals.lean).
  GIVEN WITH THE SEED: the statements are not yours to turn. If you find one false, say at which input.
  Laid BY PROGRAM, IN A SANDBOX (cutbox-rows.mjs): the forced cells as the released guide's own fill.sh prints them over the translation 5e6c1916be2ed3b2… (all of the seat's roots in one cut). By AI agents, Wed Nov 11 2026. No macro, syntax, notation, axiom, sorry.
-/
import Derived.Test.YtihabioaodfolaaChecked
import GoSem.Claim
import GoSem.ClaimJoined
import GoSem.ClaimMapViews
import Derived.JoinedTies
import Derived.KernelRfl
namespace Go.Proofs.Ytihabioaodfolaa
/- THE CELL 'sum', in the pinned program and in every row, IS THE sha256 OF THE DUMP (.gsa) THAT YtihabioaodfolaaProg.lean LOADS. Nothing in Lean hashes anything: it is a label: what it is worth is what the hold of that sum in a sandbox is worth. -/
noncomputable def Try.pinned : Pinned := { name := "ytihabioaodfolaa", sum := "5e6c1916be2ed3b2278df83bccb7edbc52e9c05a3371271a001b3ee335b68bfb", checked := Try.checked }
namespace Rows
def none {H : Type} : Left H := { results := [], args := [] }

/-- 'laws.FnExactUlebBytes': WHATEVER THE INPUT: true; the input reads as it did. -/
def fnExactUlebBytesSpec : ChangeSpec := { name := "fnExactUlebBytes", fn := fun _ => fun
  | [d] => { results := [.lit (.bool true)], args := [d] }
  | _ => none }
def fnExactUlebBytesRow : OpenClaim := { program := "ytihabioaodfolaa", sum := "5e6c1916be2ed3b2278df83bccb7edbc52e9c05a3371271a001b3ee335b68bfb", func := "loop.example/g00209/laws.FnExactUlebBytes", spec := "fnExactUlebBytes", apart := false }
def FnExactUlebBytesSaid : Prop := fnExactUlebBytesRow.holds Try.pinned (OpenSpec.ofChange fnExactUlebBytesSpec)

/-- ITS FALSE NEIGHBOUR: 'it returns false'. Refute it at one input. -/
def fnExactUlebBytesWrong : ChangeSpec := { name := "fnExactUlebBytes", fn := fun _ => fun
  | [d] => { results := [.lit (.bool false)], args := [d] }
  | _ => none }
def FnExactUlebBytesWrongFalsely : Prop := fnExactUlebBytesRow.holds Try.pinned (OpenSpec.ofChange fnExactUlebBytesWrong)

/-- 'laws.FnExactTakeUleb': WHATEVER THE INPUT: true; the input reads as it did. -/
def fnExactTakeUlebSpec : ChangeSpec := { name := "fnExactTakeUleb", fn := fun _ => fun
  | [d1, d2] => { results := [.lit (.bool true)], args := [d1, d2] }
  | _ => none }
def fnExactTakeUlebRow : OpenClaim := { program := "ytihabioaodfolaa", sum := "5e6c1916be2ed3b2278df83bccb7edbc52e9c05a3371271a001b3ee335b68bfb", func := "loop.example/g00209/laws.FnExactTakeUleb", spec := "fnExactTakeUleb", apart := false }
def FnExactTakeUlebSaid : Prop := fnExactTakeUlebRow.holds Try.pinned (OpenSpec.ofChange fnExactTakeUlebSpec)

/-- ITS FALSE NEIGHBOUR: 'it returns false'. Refute it at one input. -/
def fnExactTakeUlebWrong : ChangeSpec := { name := "fnExactTakeUleb", fn := fun _ => fun
  | [d1, d2] => { results := [.lit (.bool false)], args := [d1, d2] }
  | _ => none }
def FnExactTakeUlebWrongFalsely : Prop := fnExactTakeUlebRow.holds Try.pinned (OpenSpec.ofChange fnExactTakeUlebWrong)

/-- 'laws.FnExactSlebBytes': WHATEVER THE INPUT: true; the input reads as it did. -/
def fnExactSlebBytesSpec : ChangeSpec := { name := "fnExactSlebBytes", fn := fun _ => fun
  | [d] => { results := [.lit (.bool true)], args := [d] }
  | _ => none }
def fnExactSlebBytesRow : OpenClaim := { program := "ytihabioaodfolaa", sum := "5e6c1916be2ed3b2278df83bccb7edbc52e9c05a3371271a001b3ee335b68bfb", func := "loop.example/g00209/laws.FnExactSlebBytes", spec := "fnExactSlebBytes", apart := false }
def FnExactSlebBytesSaid : Prop := fnExactSlebBytesRow.holds Try.pinned (OpenSpec.ofChange fnExactSlebBytesSpec)

/-- ITS FALSE NEIGHBOUR: 'it returns false'. Refute it at one input. -/
def fnExactSlebBytesWrong : ChangeSpec := { name := "fnExactSlebBytes", fn := fun _ => fun
  | [d] => { results := [.lit (.bool false)], args := [d] }
  | _ => none }
def FnExactSlebBytesWrongFalsely : Prop := fnExactSlebBytesRow.holds Try.pinned (OpenSpec.ofChange fnExactSlebBytesWrong)

/-- 'laws.FnExactTakeSleb': WHATEVER THE INPUT: true; the input reads as it did. -/
def fnExactTakeSlebSpec : ChangeSpec := { name := "fnExactTakeSleb", fn := fun _ => fun
  | [d1, d2] => { results := [.lit (.bool true)], args := [d1, d2] }
  | _ => none }
def fnExactTakeSlebRow : OpenClaim := { program := "ytihabioaodfolaa", sum := "5e6c1916be2ed3b2278df83bccb7edbc52e9c05a3371271a001b3ee335b68bfb", func := "loop.example/g00209/laws.FnExactTakeSleb", spec := "fnExactTakeSleb", apart := false }
def FnExactTakeSlebSaid : Prop := fnExactTakeSlebRow.holds Try.pinned (OpenSpec.ofChange fnExactTakeSlebSpec)

/-- ITS FALSE NEIGHBOUR: 'it returns false'. Refute it at one input. -/
def fnExactTakeSlebWrong : ChangeSpec := { name := "fnExactTakeSleb", fn := fun _ => fun
  | [d1, d2] => { results := [.lit (.bool false)], args := [d1, d2] }
  | _ => none }
def FnExactTakeSlebWrongFalsely : Prop := fnExactTakeSlebRow.holds Try.pinned (OpenSpec.ofChange fnExactTakeSlebWrong)

/-- 'laws.FnExactUlebSize': WHATEVER THE INPUT: true; the input reads as it did. -/
def fnExactUlebSizeSpec : ChangeSpec := { name := "fnExactUlebSize", fn := fun _ => fun
  | [d] => { results := [.lit (.bool true)], args := [d] }
  | _ => none }
def fnExactUlebSizeRow : OpenClaim := { program := "ytihabioaodfolaa", sum := "5e6c1916be2ed3b2278df83bccb7edbc52e9c05a3371271a001b3ee335b68bfb", func := "loop.example/g00209/laws.FnExactUlebSize", spec := "fnExactUlebSize", apart := false }
def FnExactUlebSizeSaid : Prop := fnExactUlebSizeRow.holds Try.pinned (OpenSpec.ofChange fnExactUlebSizeSpec)

/-- ITS FALSE NEIGHBOUR: 'it returns false'. Refute it at one input. -/
def fnExactUlebSizeWrong : ChangeSpec := { name := "fnExactUlebSize", fn := fun _ => fun
  | [d] => { results := [.lit (.bool false)], args := [d] }
  | _ => none }
def FnExactUlebSizeWrongFalsely : Prop := fnExactUlebSizeRow.holds Try.pinned (OpenSpec.ofChange fnExactUlebSizeWrong)

/-- 'laws.FnExactSectionsBytes': WHATEVER THE INPUT: true; the input reads as it did. -/
def fnExactSectionsBytesSpec : ChangeSpec := { name := "fnExactSectionsBytes", fn := fun _ => fun
  | [d] => { results := [.lit (.bool true)], args := [d] }
  | _ => none }
def fnExactSectionsBytesRow : OpenClaim := { program := "ytihabioaodfolaa", sum := "5e6c1916be2ed3b2278df83bccb7edbc52e9c05a3371271a001b3ee335b68bfb", func := "loop.example/g00209/laws.FnExactSectionsBytes", spec := "fnExactSectionsBytes", apart := false }
def FnExactSectionsBytesSaid : Prop := fnExactSectionsBytesRow.holds Try.pinned (OpenSpec.ofChange fnExactSectionsBytesSpec)

/-- ITS FALSE NEIGHBOUR: 'it returns false'. Refute it at one input. -/
def fnExactSectionsBytesWrong : ChangeSpec := { name := "fnExactSectionsBytes", fn := fun _ => fun
  | [d] => { results := [.lit (.bool false)], args := [d] }
  | _ => none }
def FnExactSectionsBytesWrongFalsely : Prop := fnExactSectionsBytesRow.holds Try.pinned (OpenSpec.ofChange fnExactSectionsBytesWrong)

/- THE SECOND FORM. 'bulk': how many values and letters a reading holds, each counted each time it is reached (what is shared counts as often as it is met; a slice's spare places count too). A statement '..UptoSaid' is the law's where the arguments, and the package variables that the reading takes, are together of bulk at most 1048576: NARROWER than '..Said'. Prove '..Said' where nothing that the law and all that it calls make is longer than what came in: it says more and counts as full. Else prove '..UptoSaid'. A law counts once. -/
mutual
def uptoBulk {H : Type} : DataW H → Nat
  | .lit (.string bytes) => bytes.length + 1
  | .lit _ => 1
  | .nil => 1
  | .ptr d => uptoBulk d + 1
  | .slice elems spare => uptoBulkAll elems + uptoBulkAll spare + 1
  | .agg parts => uptoBulkAll parts + 1
  | .iface _ d => uptoBulk d + 1
  | .map entries => uptoBulkEntries entries + 1
  | .held _ => 1
def uptoBulkAll {H : Type} : List (DataW H) → Nat
  | [] => 0
  | d :: r => uptoBulk d + uptoBulkAll r
def uptoBulkEntries {H : Type} : List (Lit × DataW H) → Nat
  | [] => 0
  | x :: r => uptoBulkEntry x + uptoBulkEntries r
def uptoBulkEntry {H : Type} : Lit × DataW H → Nat
  | (.string bytes, d) => bytes.length + uptoBulk d + 1
  | (_, d) => uptoBulk d + 1
 end
def uptoSmall : (H : Type) → List (DataW H) → Bool := fun _ ds => decide (uptoBulkAll ds ≤ 1048576)
def OpenSpec.upto (s : _root_.Go.ChangeSpec) : _root_.Go.OpenSpec := { _root_.Go.OpenSpec.ofChange s with cond := some uptoSmall }

/-- 'laws.FnExactUlebBytes', WHERE WHAT IT READS IS OF BULK AT MOST 1048576: true; the input reads as it did. -/
def fnExactUlebBytesUptoRow : OpenClaim := { program := "ytihabioaodfolaa", sum := "5e6c1916be2ed3b2278df83bccb7edbc52e9c05a3371271a001b3ee335b68bfb", func := "loop.example/g00209/laws.FnExactUlebBytes", spec := "fnExactUlebBytes", apart := false, narrowed := true }
def FnExactUlebBytesUptoSaid : Prop := fnExactUlebBytesUptoRow.holds Try.pinned (OpenSpec.upto fnExactUlebBytesSpec)

/-- 'laws.FnExactTakeUleb', WHERE WHAT IT READS IS OF BULK AT MOST 1048576: true; the input reads as it did. -/
def fnExactTakeUlebUptoRow : OpenClaim := { program := "ytihabioaodfolaa", sum := "5e6c1916be2ed3b2278df83bccb7edbc52e9c05a3371271a001b3ee335b68bfb", func := "loop.example/g00209/laws.FnExactTakeUleb", spec := "fnExactTakeUleb", apart := false, narrowed := true }
def FnExactTakeUlebUptoSaid : Prop := fnExactTakeUlebUptoRow.holds Try.pinned (OpenSpec.upto fnExactTakeUlebSpec)

/-- 'laws.FnExactSlebBytes', WHERE WHAT IT READS IS OF BULK AT MOST 1048576: true; the input reads as it did. -/
def fnExactSlebBytesUptoRow : OpenClaim := { program := "ytihabioaodfolaa", sum := "5e6c1916be2ed3b2278df83bccb7edbc52e9c05a3371271a001b3ee335b68bfb", func := "loop.example/g00209/laws.FnExactSlebBytes", spec := "fnExactSlebBytes", apart := false, narrowed := true }
def FnExactSlebBytesUptoSaid : Prop := fnExactSlebBytesUptoRow.holds Try.pinned (OpenSpec.upto fnExactSlebBytesSpec)

/-- 'laws.FnExactTakeSleb', WHERE WHAT IT READS IS OF BULK AT MOST 1048576: true; the input reads as it did. -/
def fnExactTakeSlebUptoRow : OpenClaim := { program := "ytihabioaodfolaa", sum := "5e6c1916be2ed3b2278df83bccb7edbc52e9c05a3371271a001b3ee335b68bfb", func := "loop.example/g00209/laws.FnExactTakeSleb", spec := "fnExactTakeSleb", apart := false, narrowed := true }
def FnExactTakeSlebUptoSaid : Prop := fnExactTakeSlebUptoRow.holds Try.pinned (OpenSpec.upto fnExactTakeSlebSpec)

/-- 'laws.FnExactUlebSize', WHERE WHAT IT READS IS OF BULK AT MOST 1048576: true; the input reads as it did. -/
def fnExactUlebSizeUptoRow : OpenClaim := { program := "ytihabioaodfolaa", sum := "5e6c1916be2ed3b2278df83bccb7edbc52e9c05a3371271a001b3ee335b68bfb", func := "loop.example/g00209/laws.FnExactUlebSize", spec := "fnExactUlebSize", apart := false, narrowed := true }
def FnExactUlebSizeUptoSaid : Prop := fnExactUlebSizeUptoRow.holds Try.pinned (OpenSpec.upto fnExactUlebSizeSpec)

/-- 'laws.FnExactSectionsBytes', WHERE WHAT IT READS IS OF BULK AT MOST 1048576: true; the input reads as it did. -/
def fnExactSectionsBytesUptoRow : OpenClaim := { program := "ytihabioaodfolaa", sum := "5e6c1916be2ed3b2278df83bccb7edbc52e9c05a3371271a001b3ee335b68bfb", func := "loop.example/g00209/laws.FnExactSectionsBytes", spec := "fnExactSectionsBytes", apart := false, narrowed := true }
def FnExactSectionsBytesUptoSaid : Prop := fnExactSectionsBytesUptoRow.holds Try.pinned (OpenSpec.upto fnExactSectionsBytesSpec)

end Rows
end Go.Proofs.Ytihabioaodfolaa
