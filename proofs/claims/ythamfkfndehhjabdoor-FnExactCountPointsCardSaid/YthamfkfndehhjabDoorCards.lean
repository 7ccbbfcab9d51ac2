/-
  DERIVED. GIVEN WITH THE SEED: THE CARDS: each row of YthamfkfndehhjabDoorRows.lean that lists a variable, with what it lists TIED to the program's text (the seventh form; the later family's looks); each row that meets fmt, with fmt's text TOLD by the authors' own Lean function (tested against real Go, not proved from fmt's source: count such statements apart). THE CARD IS WHAT COUNTS. Prove the row's statement (the work); the ties are given (YthamfkfndehhjabDoorTie.lean); close each card by the builder's one call (the guide's Derived/Test/ToyasCard.lean, 'card_holds'). Laid BY PROGRAM, IN A SANDBOX (cutbox-door.mjs). By AI agents, Wed Nov 11 2026. No macro, syntax, notation, axiom, sorry.
-/
import Derived.Test.YthamfkfndehhjabDoorRows
import GoSem.ClaimSeven
namespace Go.Proofs.YthamfkfndehhjabDoor
namespace Rows

/-- THE TIED CARD OF 'laws.FnExactCompactPoints'. -/
def fnExactCompactPointsCard : Claim7 := { stood := { row := fnExactCompactPointsRow, standIns := [], harness := (true, "af679444fca5abacb682c381393ab6cbee888b4961c63279050d37aeb95aa308"), looks := false }, kinds := [], alts := [], laidByText := true, laidKinds := [.data, .pinned], laidTests := true, laidLooks := .later }
def FnExactCompactPointsCardSaid : Prop := Claim7.holds Tryd.pinned (.plain (OpenSpec.ofChange fnExactCompactPointsSpec)) fnExactCompactPointsCard

/-- THE TIED CARD OF 'laws.FnExactCountPoints'. -/
def fnExactCountPointsCard : Claim7 := { stood := { row := fnExactCountPointsRow, standIns := [], harness := (true, "af679444fca5abacb682c381393ab6cbee888b4961c63279050d37aeb95aa308"), looks := false }, kinds := [], alts := [], laidByText := true, laidKinds := [.data, .pinned], laidTests := true, laidLooks := .later }
def FnExactCountPointsCardSaid : Prop := Claim7.holds Tryd.pinned (.plain (OpenSpec.ofChange fnExactCountPointsSpec)) fnExactCountPointsCard

/-- THE SECOND FORM's CARD OF 'laws.FnExactCompactPoints'. -/
def fnExactCompactPointsUptoCard : Claim7 := { stood := { row := fnExactCompactPointsUptoRow, standIns := [], harness := (true, "af679444fca5abacb682c381393ab6cbee888b4961c63279050d37aeb95aa308"), looks := false }, kinds := [], alts := [], laidByText := true, laidKinds := [.data, .pinned], laidTests := true, laidLooks := .later }
def FnExactCompactPointsUptoCardSaid : Prop := Claim7.holds Tryd.pinned (.plain (OpenSpec.upto fnExactCompactPointsSpec)) fnExactCompactPointsUptoCard

/-- THE SECOND FORM's CARD OF 'laws.FnExactCountPoints'. -/
def fnExactCountPointsUptoCard : Claim7 := { stood := { row := fnExactCountPointsUptoRow, standIns := [], harness := (true, "af679444fca5abacb682c381393ab6cbee888b4961c63279050d37aeb95aa308"), looks := false }, kinds := [], alts := [], laidByText := true, laidKinds := [.data, .pinned], laidTests := true, laidLooks := .later }
def FnExactCountPointsUptoCardSaid : Prop := Claim7.holds Tryd.pinned (.plain (OpenSpec.upto fnExactCountPointsSpec)) fnExactCountPointsUptoCard
end Rows
end Go.Proofs.YthamfkfndehhjabDoor
