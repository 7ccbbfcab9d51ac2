/-
  DERIVED. GIVEN WITH THE SEED: THE CARDS: each row of YtgepplddhmgifaaDoorRows.lean that lists a variable, with what it lists TIED to the program's text (the seventh form; the later family's looks); each row that meets fmt, with fmt's text TOLD by the authors' own Lean function (tested against real Go, not proved from fmt's source: count such statements apart). THE CARD IS WHAT COUNTS. Prove the row's statement (the work); the ties are given (YtgepplddhmgifaaDoorTie.lean); close each card by the builder's one call (the guide's Derived/Test/ToyasCard.lean, 'card_holds'). Laid BY PROGRAM, IN A SANDBOX (cutbox-door.mjs). By AI agents, Wed Nov 11 2026. No macro, syntax, notation, axiom, sorry.
-/
import Derived.Test.YtgepplddhmgifaaDoorRows
import GoSem.ClaimSeven
namespace Go.Proofs.YtgepplddhmgifaaDoor
namespace Rows

/-- THE TIED CARD OF 'laws.FnExactTakeRoom'. -/
def fnExactTakeRoomCard : Claim7 := { stood := { row := fnExactTakeRoomRow, standIns := [], harness := (true, "85c3f6d6a47df4ccb3f14e787575b6e0a80c29504b6a56483be53ed32b304685"), looks := false }, kinds := [], alts := [], laidByText := true, laidKinds := [.data, .pinned], laidTests := true, laidLooks := .later }
def FnExactTakeRoomCardSaid : Prop := Claim7.holds Tryd.pinned (.plain (OpenSpec.ofChange fnExactTakeRoomSpec)) fnExactTakeRoomCard

/-- THE TIED CARD OF 'laws.FnExactLowerText'. -/
def fnExactLowerTextCard : Claim7 := { stood := { row := fnExactLowerTextRow, standIns := [], harness := (true, "85c3f6d6a47df4ccb3f14e787575b6e0a80c29504b6a56483be53ed32b304685"), looks := false }, kinds := [], alts := [], laidByText := true, laidKinds := [.data, .pinned], laidTests := true, laidLooks := .later }
def FnExactLowerTextCardSaid : Prop := Claim7.holds Tryd.pinned (.plain (OpenSpec.ofChange fnExactLowerTextSpec)) fnExactLowerTextCard

/-- THE TIED CARD OF 'laws.FnExactLiftText'. -/
def fnExactLiftTextCard : Claim7 := { stood := { row := fnExactLiftTextRow, standIns := [], harness := (true, "85c3f6d6a47df4ccb3f14e787575b6e0a80c29504b6a56483be53ed32b304685"), looks := false }, kinds := [], alts := [], laidByText := true, laidKinds := [.data, .pinned], laidTests := true, laidLooks := .later }
def FnExactLiftTextCardSaid : Prop := Claim7.holds Tryd.pinned (.plain (OpenSpec.ofChange fnExactLiftTextSpec)) fnExactLiftTextCard

/-- THE SECOND FORM's CARD OF 'laws.FnExactTakeRoom'. -/
def fnExactTakeRoomUptoCard : Claim7 := { stood := { row := fnExactTakeRoomUptoRow, standIns := [], harness := (true, "85c3f6d6a47df4ccb3f14e787575b6e0a80c29504b6a56483be53ed32b304685"), looks := false }, kinds := [], alts := [], laidByText := true, laidKinds := [.data, .pinned], laidTests := true, laidLooks := .later }
def FnExactTakeRoomUptoCardSaid : Prop := Claim7.holds Tryd.pinned (.plain (OpenSpec.upto fnExactTakeRoomSpec)) fnExactTakeRoomUptoCard

/-- THE SECOND FORM's CARD OF 'laws.FnExactLowerText'. -/
def fnExactLowerTextUptoCard : Claim7 := { stood := { row := fnExactLowerTextUptoRow, standIns := [], harness := (true, "85c3f6d6a47df4ccb3f14e787575b6e0a80c29504b6a56483be53ed32b304685"), looks := false }, kinds := [], alts := [], laidByText := true, laidKinds := [.data, .pinned], laidTests := true, laidLooks := .later }
def FnExactLowerTextUptoCardSaid : Prop := Claim7.holds Tryd.pinned (.plain (OpenSpec.upto fnExactLowerTextSpec)) fnExactLowerTextUptoCard

/-- THE SECOND FORM's CARD OF 'laws.FnExactLiftText'. -/
def fnExactLiftTextUptoCard : Claim7 := { stood := { row := fnExactLiftTextUptoRow, standIns := [], harness := (true, "85c3f6d6a47df4ccb3f14e787575b6e0a80c29504b6a56483be53ed32b304685"), looks := false }, kinds := [], alts := [], laidByText := true, laidKinds := [.data, .pinned], laidTests := true, laidLooks := .later }
def FnExactLiftTextUptoCardSaid : Prop := Claim7.holds Tryd.pinned (.plain (OpenSpec.upto fnExactLiftTextSpec)) fnExactLiftTextUptoCard
end Rows
end Go.Proofs.YtgepplddhmgifaaDoor
