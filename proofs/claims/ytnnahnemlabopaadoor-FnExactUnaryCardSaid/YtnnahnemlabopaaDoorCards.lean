/-
  DERIVED. GIVEN WITH THE SEED: THE CARDS: each row of YtnnahnemlabopaaDoorRows.lean that lists a variable, with what it lists TIED to the program's text (the seventh form; the later family's looks); each row that meets fmt, with fmt's text TOLD by the authors' own Lean function (tested against real Go, not proved from fmt's source: count such statements apart). THE CARD IS WHAT COUNTS. Prove the row's statement (the work); the ties are given (YtnnahnemlabopaaDoorTie.lean); close each card by the builder's one call (the guide's Derived/Test/ToyasCard.lean, 'card_holds'). Laid BY PROGRAM, IN A SANDBOX (cutbox-door.mjs). By AI agents, Wed Nov 11 2026. No macro, syntax, notation, axiom, sorry.
-/
import Derived.Test.YtnnahnemlabopaaDoorRows
import GoSem.ClaimSeven
namespace Go.Proofs.YtnnahnemlabopaaDoor
namespace Rows

/-- THE TIED CARD OF 'laws.FnExactUnary'. -/
def fnExactUnaryCard : Claim7 := { stood := { row := fnExactUnaryRow, standIns := [], harness := (true, "0dc1dbc1263bff85a1132180461989eaa097071fd1c20e09b5866c8283af4280"), looks := false }, kinds := [], alts := [], laidByText := true, laidKinds := [.data], laidTests := true, laidLooks := .later }
def FnExactUnaryCardSaid : Prop := Claim7.holds Tryd.pinned (.plain (OpenSpec.ofChange fnExactUnarySpec)) fnExactUnaryCard

/-- THE SECOND FORM's CARD OF 'laws.FnExactUnary'. -/
def fnExactUnaryUptoCard : Claim7 := { stood := { row := fnExactUnaryUptoRow, standIns := [], harness := (true, "0dc1dbc1263bff85a1132180461989eaa097071fd1c20e09b5866c8283af4280"), looks := false }, kinds := [], alts := [], laidByText := true, laidKinds := [.data], laidTests := true, laidLooks := .later }
def FnExactUnaryUptoCardSaid : Prop := Claim7.holds Tryd.pinned (.plain (OpenSpec.upto fnExactUnarySpec)) fnExactUnaryUptoCard
end Rows
end Go.Proofs.YtnnahnemlabopaaDoor
