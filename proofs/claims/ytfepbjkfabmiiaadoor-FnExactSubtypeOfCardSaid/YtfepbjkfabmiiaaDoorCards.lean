/-
  DERIVED. GIVEN WITH THE SEED: THE CARDS: each row of YtfepbjkfabmiiaaDoorRows.lean that lists a variable, with what it lists TIED to the program's text (the seventh form; the later family's looks); each row that meets fmt, with fmt's text TOLD by the authors' own Lean function (tested against real Go, not proved from fmt's source: count such statements apart). THE CARD IS WHAT COUNTS. Prove the row's statement (the work); the ties are given (YtfepbjkfabmiiaaDoorTie.lean); close each card by the builder's one call (the guide's Derived/Test/ToyasCard.lean, 'card_holds'). Laid BY PROGRAM, IN A SANDBOX (cutbox-door.mjs). By AI agents, Wed Nov 11 2026. No macro, syntax, notation, axiom, sorry.
-/
import Derived.Test.YtfepbjkfabmiiaaDoorRows
import GoSem.ClaimSeven
namespace Go.Proofs.YtfepbjkfabmiiaaDoor
namespace Rows

/-- THE TIED CARD OF 'laws.FnExactReadType'. -/
def fnExactReadTypeCard : Claim7 := { stood := { row := fnExactReadTypeRow, standIns := [], harness := (true, "9ba933909aaf73dc4572cbd2fb93fc90075cb7b061c4b4cda6f55a1dd9c9ca42"), looks := true }, kinds := [], alts := [], laidByText := true, laidKinds := [.data, .data, .data, .sentinel, .sentinel, .data], laidTests := true, laidLooks := .later }
def FnExactReadTypeCardSaid : Prop := Claim7.holds Tryd.pinned (.plain (OpenSpec.ofChange fnExactReadTypeSpec)) fnExactReadTypeCard

/-- THE TIED CARD OF 'laws.FnExactGoodSignature'. -/
def fnExactGoodSignatureCard : Claim7 := { stood := { row := fnExactGoodSignatureRow, standIns := [], harness := (true, "9ba933909aaf73dc4572cbd2fb93fc90075cb7b061c4b4cda6f55a1dd9c9ca42"), looks := true }, kinds := [], alts := [], laidByText := true, laidKinds := [.data, .data, .data, .sentinel, .sentinel, .data], laidTests := true, laidLooks := .later }
def FnExactGoodSignatureCardSaid : Prop := Claim7.holds Tryd.pinned (.plain (OpenSpec.ofChange fnExactGoodSignatureSpec)) fnExactGoodSignatureCard

/-- THE TIED CARD OF 'laws.FnExactSubtypeOf'. -/
def fnExactSubtypeOfCard : Claim7 := { stood := { row := fnExactSubtypeOfRow, standIns := [], harness := (true, "9ba933909aaf73dc4572cbd2fb93fc90075cb7b061c4b4cda6f55a1dd9c9ca42"), looks := true }, kinds := [], alts := [], laidByText := true, laidKinds := [.data, .data, .data, .sentinel, .sentinel, .data], laidTests := true, laidLooks := .later }
def FnExactSubtypeOfCardSaid : Prop := Claim7.holds Tryd.pinned (.plain (OpenSpec.ofChange fnExactSubtypeOfSpec)) fnExactSubtypeOfCard

/-- THE SECOND FORM's CARD OF 'laws.FnExactReadType'. -/
def fnExactReadTypeUptoCard : Claim7 := { stood := { row := fnExactReadTypeUptoRow, standIns := [], harness := (true, "9ba933909aaf73dc4572cbd2fb93fc90075cb7b061c4b4cda6f55a1dd9c9ca42"), looks := true }, kinds := [], alts := [], laidByText := true, laidKinds := [.data, .data, .data, .sentinel, .sentinel, .data], laidTests := true, laidLooks := .later }
def FnExactReadTypeUptoCardSaid : Prop := Claim7.holds Tryd.pinned (.plain (OpenSpec.upto fnExactReadTypeSpec)) fnExactReadTypeUptoCard

/-- THE SECOND FORM's CARD OF 'laws.FnExactGoodSignature'. -/
def fnExactGoodSignatureUptoCard : Claim7 := { stood := { row := fnExactGoodSignatureUptoRow, standIns := [], harness := (true, "9ba933909aaf73dc4572cbd2fb93fc90075cb7b061c4b4cda6f55a1dd9c9ca42"), looks := true }, kinds := [], alts := [], laidByText := true, laidKinds := [.data, .data, .data, .sentinel, .sentinel, .data], laidTests := true, laidLooks := .later }
def FnExactGoodSignatureUptoCardSaid : Prop := Claim7.holds Tryd.pinned (.plain (OpenSpec.upto fnExactGoodSignatureSpec)) fnExactGoodSignatureUptoCard

/-- THE SECOND FORM's CARD OF 'laws.FnExactSubtypeOf'. -/
def fnExactSubtypeOfUptoCard : Claim7 := { stood := { row := fnExactSubtypeOfUptoRow, standIns := [], harness := (true, "9ba933909aaf73dc4572cbd2fb93fc90075cb7b061c4b4cda6f55a1dd9c9ca42"), looks := true }, kinds := [], alts := [], laidByText := true, laidKinds := [.data, .data, .data, .sentinel, .sentinel, .data], laidTests := true, laidLooks := .later }
def FnExactSubtypeOfUptoCardSaid : Prop := Claim7.holds Tryd.pinned (.plain (OpenSpec.upto fnExactSubtypeOfSpec)) fnExactSubtypeOfUptoCard
end Rows
end Go.Proofs.YtfepbjkfabmiiaaDoor
