/-
  DERIVED. GIVEN WITH THE SEED: THE CARDS: each row of YthoenaoanikppaaDoorRows.lean that lists a variable, with what it lists TIED to the program's text (the seventh form; the later family's looks); each row that meets fmt, with fmt's text TOLD by the authors' own Lean function (tested against real Go, not proved from fmt's source: count such statements apart). THE CARD IS WHAT COUNTS. Prove the row's statement (the work); the ties are given (YthoenaoanikppaaDoorTie.lean); close each card by the builder's one call (the guide's Derived/Test/ToyasCard.lean, 'card_holds'). Laid BY PROGRAM, IN A SANDBOX (cutbox-door.mjs). By AI agents, Wed Nov 11 2026. No macro, syntax, notation, axiom, sorry.
-/
import Derived.Test.YthoenaoanikppaaDoorRows
import GoSem.ClaimSeven
namespace Go.Proofs.YthoenaoanikppaaDoor
namespace Rows

/-- THE TIED CARD OF 'laws.FnExactFlatFits'. -/
def fnExactFlatFitsCard : Claim7 := { stood := { row := fnExactFlatFitsRow, standIns := [], harness := (true, "54a6205071e758b02f04fd008a484e507d380f868baa412608a268c11e695b22"), looks := false }, kinds := [], alts := [], laidByText := true, laidKinds := [.data], laidTests := true, laidLooks := .later }
def FnExactFlatFitsCardSaid : Prop := Claim7.holds Tryd.pinned (.plain (OpenSpec.ofChange fnExactFlatFitsSpec)) fnExactFlatFitsCard

/-- THE SECOND FORM's CARD OF 'laws.FnExactFlatFits'. -/
def fnExactFlatFitsUptoCard : Claim7 := { stood := { row := fnExactFlatFitsUptoRow, standIns := [], harness := (true, "54a6205071e758b02f04fd008a484e507d380f868baa412608a268c11e695b22"), looks := false }, kinds := [], alts := [], laidByText := true, laidKinds := [.data], laidTests := true, laidLooks := .later }
def FnExactFlatFitsUptoCardSaid : Prop := Claim7.holds Tryd.pinned (.plain (OpenSpec.upto fnExactFlatFitsSpec)) fnExactFlatFitsUptoCard
end Rows
end Go.Proofs.YthoenaoanikppaaDoor
