/-
  DERIVED. GIVEN WITH THE SEED: THE CARDS: each row of YthamfkfndehhjaaDoorRows.lean that lists a variable, with what it lists TIED to the program's text (the seventh form; the later family's looks); each row that meets fmt, with fmt's text TOLD by the authors' own Lean function (tested against real Go, not proved from fmt's source: count such statements apart). THE CARD IS WHAT COUNTS. Prove the row's statement (the work); the ties are given (YthamfkfndehhjaaDoorTie.lean); close each card by the builder's one call (the guide's Derived/Test/ToyasCard.lean, 'card_holds'). Laid BY PROGRAM, IN A SANDBOX (cutbox-door.mjs). By AI agents, Wed Nov 11 2026. No macro, syntax, notation, axiom, sorry.
-/
import Derived.Test.YthamfkfndehhjaaDoorRows
import GoSem.ClaimSeven
namespace Go.Proofs.YthamfkfndehhjaaDoor
namespace Rows

/-- THE TIED CARD OF 'laws.FnExactDecodePoints'. -/
def fnExactDecodePointsCard : Claim7 := { stood := { row := fnExactDecodePointsRow, standIns := [], harness := (true, "f3d5cb09eb446cf2c59d90d417963d0490c308a091856dffafdc432d444a5b03"), looks := false }, kinds := [], alts := [], laidByText := true, laidKinds := [.data, .pinned], laidTests := true, laidLooks := .later }
def FnExactDecodePointsCardSaid : Prop := Claim7.holds Tryd.pinned (.plain (OpenSpec.ofChange fnExactDecodePointsSpec)) fnExactDecodePointsCard

/-- THE TIED CARD OF 'laws.FnExactTranscode'. -/
def fnExactTranscodeCard : Claim7 := { stood := { row := fnExactTranscodeRow, standIns := [], harness := (true, "f3d5cb09eb446cf2c59d90d417963d0490c308a091856dffafdc432d444a5b03"), looks := false }, kinds := [], alts := [], laidByText := true, laidKinds := [.data, .pinned], laidTests := true, laidLooks := .later }
def FnExactTranscodeCardSaid : Prop := Claim7.holds Tryd.pinned (.plain (OpenSpec.ofChange fnExactTranscodeSpec)) fnExactTranscodeCard

/-- THE SECOND FORM's CARD OF 'laws.FnExactDecodePoints'. -/
def fnExactDecodePointsUptoCard : Claim7 := { stood := { row := fnExactDecodePointsUptoRow, standIns := [], harness := (true, "f3d5cb09eb446cf2c59d90d417963d0490c308a091856dffafdc432d444a5b03"), looks := false }, kinds := [], alts := [], laidByText := true, laidKinds := [.data, .pinned], laidTests := true, laidLooks := .later }
def FnExactDecodePointsUptoCardSaid : Prop := Claim7.holds Tryd.pinned (.plain (OpenSpec.upto fnExactDecodePointsSpec)) fnExactDecodePointsUptoCard

/-- THE SECOND FORM's CARD OF 'laws.FnExactTranscode'. -/
def fnExactTranscodeUptoCard : Claim7 := { stood := { row := fnExactTranscodeUptoRow, standIns := [], harness := (true, "f3d5cb09eb446cf2c59d90d417963d0490c308a091856dffafdc432d444a5b03"), looks := false }, kinds := [], alts := [], laidByText := true, laidKinds := [.data, .pinned], laidTests := true, laidLooks := .later }
def FnExactTranscodeUptoCardSaid : Prop := Claim7.holds Tryd.pinned (.plain (OpenSpec.upto fnExactTranscodeSpec)) fnExactTranscodeUptoCard
end Rows
end Go.Proofs.YthamfkfndehhjaaDoor
