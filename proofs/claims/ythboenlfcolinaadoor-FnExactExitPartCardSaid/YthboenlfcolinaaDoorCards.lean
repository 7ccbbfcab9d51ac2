/-
  DERIVED. GIVEN WITH THE SEED: THE CARDS: each row of YthboenlfcolinaaDoorRows.lean that lists a variable, with what it lists TIED to the program's text (the seventh form; the later family's looks); each row that meets fmt, with fmt's text TOLD by the authors' own Lean function (tested against real Go, not proved from fmt's source: count such statements apart). THE CARD IS WHAT COUNTS. Prove the row's statement (the work); the ties are given (YthboenlfcolinaaDoorTie.lean); close each card by the builder's one call (the guide's Derived/Test/ToyasCard.lean, 'card_holds'). Laid BY PROGRAM, IN A SANDBOX (cutbox-door.mjs). By AI agents, Wed Nov 11 2026. No macro, syntax, notation, axiom, sorry.
-/
import Derived.Test.YthboenlfcolinaaDoorRows
import GoSem.ClaimSeven
namespace Go.Proofs.YthboenlfcolinaaDoor
namespace Rows

/-- THE TIED CARD OF 'laws.FnExactGoodPart'. -/
def fnExactGoodPartCard : Claim7 := { stood := { row := fnExactGoodPartRow, standIns := [], harness := (true, "3ec8cd1ed35d06410923660659ed60ee8a2b7d410a380d832e87ad77def71196"), looks := false }, kinds := [], alts := [], laidByText := true, laidKinds := [.data, .pinned], laidTests := true, laidLooks := .later }
def FnExactGoodPartCardSaid : Prop := Claim7.holds Tryd.pinned (.plain (OpenSpec.ofChange fnExactGoodPartSpec)) fnExactGoodPartCard

/-- THE TIED CARD OF 'laws.FnExactEnterPart'. -/
def fnExactEnterPartCard : Claim7 := { stood := { row := fnExactEnterPartRow, standIns := [], harness := (true, "3ec8cd1ed35d06410923660659ed60ee8a2b7d410a380d832e87ad77def71196"), looks := false }, kinds := [], alts := [], laidByText := true, laidKinds := [.data, .pinned], laidTests := true, laidLooks := .later }
def FnExactEnterPartCardSaid : Prop := Claim7.holds Tryd.pinned (.plain (OpenSpec.ofChange fnExactEnterPartSpec)) fnExactEnterPartCard

/-- THE TIED CARD OF 'laws.FnExactExitPart'. -/
def fnExactExitPartCard : Claim7 := { stood := { row := fnExactExitPartRow, standIns := [], harness := (true, "3ec8cd1ed35d06410923660659ed60ee8a2b7d410a380d832e87ad77def71196"), looks := false }, kinds := [], alts := [], laidByText := true, laidKinds := [.data, .pinned], laidTests := true, laidLooks := .later }
def FnExactExitPartCardSaid : Prop := Claim7.holds Tryd.pinned (.plain (OpenSpec.ofChange fnExactExitPartSpec)) fnExactExitPartCard

/-- THE SECOND FORM's CARD OF 'laws.FnExactGoodPart'. -/
def fnExactGoodPartUptoCard : Claim7 := { stood := { row := fnExactGoodPartUptoRow, standIns := [], harness := (true, "3ec8cd1ed35d06410923660659ed60ee8a2b7d410a380d832e87ad77def71196"), looks := false }, kinds := [], alts := [], laidByText := true, laidKinds := [.data, .pinned], laidTests := true, laidLooks := .later }
def FnExactGoodPartUptoCardSaid : Prop := Claim7.holds Tryd.pinned (.plain (OpenSpec.upto fnExactGoodPartSpec)) fnExactGoodPartUptoCard

/-- THE SECOND FORM's CARD OF 'laws.FnExactEnterPart'. -/
def fnExactEnterPartUptoCard : Claim7 := { stood := { row := fnExactEnterPartUptoRow, standIns := [], harness := (true, "3ec8cd1ed35d06410923660659ed60ee8a2b7d410a380d832e87ad77def71196"), looks := false }, kinds := [], alts := [], laidByText := true, laidKinds := [.data, .pinned], laidTests := true, laidLooks := .later }
def FnExactEnterPartUptoCardSaid : Prop := Claim7.holds Tryd.pinned (.plain (OpenSpec.upto fnExactEnterPartSpec)) fnExactEnterPartUptoCard

/-- THE SECOND FORM's CARD OF 'laws.FnExactExitPart'. -/
def fnExactExitPartUptoCard : Claim7 := { stood := { row := fnExactExitPartUptoRow, standIns := [], harness := (true, "3ec8cd1ed35d06410923660659ed60ee8a2b7d410a380d832e87ad77def71196"), looks := false }, kinds := [], alts := [], laidByText := true, laidKinds := [.data, .pinned], laidTests := true, laidLooks := .later }
def FnExactExitPartUptoCardSaid : Prop := Claim7.holds Tryd.pinned (.plain (OpenSpec.upto fnExactExitPartSpec)) fnExactExitPartUptoCard
end Rows
end Go.Proofs.YthboenlfcolinaaDoor
