/-
  DERIVED. GIVEN WITH THE SEED: THE CARDS: each row of YtlimlpidbjkofaaDoorRows.lean that lists a variable, with what it lists TIED to the program's text (the seventh form; the later family's looks); each row that meets fmt, with fmt's text TOLD by the authors' own Lean function (tested against real Go, not proved from fmt's source: count such statements apart). THE CARD IS WHAT COUNTS. Prove the row's statement (the work); the ties are given (YtlimlpidbjkofaaDoorTie.lean); close each card by the builder's one call (the guide's Derived/Test/ToyasCard.lean, 'card_holds'). Laid BY PROGRAM, IN A SANDBOX (cutbox-door.mjs). By AI agents, Wed Nov 11 2026. No macro, syntax, notation, axiom, sorry.
-/
import Derived.Test.YtlimlpidbjkofaaDoorRows
import GoSem.ClaimSeven
namespace Go.Proofs.YtlimlpidbjkofaaDoor
namespace Rows

/-- THE TIED CARD OF 'laws.FnExactFitsType'. -/
def fnExactFitsTypeCard : Claim7 := { stood := { row := fnExactFitsTypeRow, standIns := [], harness := (true, "7b5d046ea79ec434ad389b2b953320de0728e25ca64b02890007e5ebde579885"), looks := false }, kinds := [], alts := [], laidByText := true, laidKinds := [.data, .data, .data, .pinned], laidTests := true, laidLooks := .later }
def FnExactFitsTypeCardSaid : Prop := Claim7.holds Tryd.pinned (.plain (OpenSpec.ofChange fnExactFitsTypeSpec)) fnExactFitsTypeCard

/-- THE TIED CARD OF 'laws.FnExactZeroOf'. -/
def fnExactZeroOfCard : Claim7 := { stood := { row := fnExactZeroOfRow, standIns := [], harness := (true, "7b5d046ea79ec434ad389b2b953320de0728e25ca64b02890007e5ebde579885"), looks := false }, kinds := [], alts := [], laidByText := true, laidKinds := [.data], laidTests := true, laidLooks := .later }
def FnExactZeroOfCardSaid : Prop := Claim7.holds Tryd.pinned (.plain (OpenSpec.ofChange fnExactZeroOfSpec)) fnExactZeroOfCard

/-- THE TIED CARD OF 'laws.FnExactCountIn'. -/
def fnExactCountInCard : Claim7 := { stood := { row := fnExactCountInRow, standIns := [], harness := (true, "7b5d046ea79ec434ad389b2b953320de0728e25ca64b02890007e5ebde579885"), looks := false }, kinds := [], alts := [], laidByText := true, laidKinds := [.data, .data, .data, .pinned], laidTests := true, laidLooks := .later }
def FnExactCountInCardSaid : Prop := Claim7.holds Tryd.pinned (.plain (OpenSpec.ofChange fnExactCountInSpec)) fnExactCountInCard

/-- THE TIED CARD OF 'laws.FnExactSameValue'. -/
def fnExactSameValueCard : Claim7 := { stood := { row := fnExactSameValueRow, standIns := [], harness := (true, "7b5d046ea79ec434ad389b2b953320de0728e25ca64b02890007e5ebde579885"), looks := false }, kinds := [], alts := [], laidByText := true, laidKinds := [.data, .data, .data, .pinned], laidTests := true, laidLooks := .later }
def FnExactSameValueCardSaid : Prop := Claim7.holds Tryd.pinned (.plain (OpenSpec.ofChange fnExactSameValueSpec)) fnExactSameValueCard

/-- THE SECOND FORM's CARD OF 'laws.FnExactFitsType'. -/
def fnExactFitsTypeUptoCard : Claim7 := { stood := { row := fnExactFitsTypeUptoRow, standIns := [], harness := (true, "7b5d046ea79ec434ad389b2b953320de0728e25ca64b02890007e5ebde579885"), looks := false }, kinds := [], alts := [], laidByText := true, laidKinds := [.data, .data, .data, .pinned], laidTests := true, laidLooks := .later }
def FnExactFitsTypeUptoCardSaid : Prop := Claim7.holds Tryd.pinned (.plain (OpenSpec.upto fnExactFitsTypeSpec)) fnExactFitsTypeUptoCard

/-- THE SECOND FORM's CARD OF 'laws.FnExactZeroOf'. -/
def fnExactZeroOfUptoCard : Claim7 := { stood := { row := fnExactZeroOfUptoRow, standIns := [], harness := (true, "7b5d046ea79ec434ad389b2b953320de0728e25ca64b02890007e5ebde579885"), looks := false }, kinds := [], alts := [], laidByText := true, laidKinds := [.data], laidTests := true, laidLooks := .later }
def FnExactZeroOfUptoCardSaid : Prop := Claim7.holds Tryd.pinned (.plain (OpenSpec.upto fnExactZeroOfSpec)) fnExactZeroOfUptoCard

/-- THE SECOND FORM's CARD OF 'laws.FnExactCountIn'. -/
def fnExactCountInUptoCard : Claim7 := { stood := { row := fnExactCountInUptoRow, standIns := [], harness := (true, "7b5d046ea79ec434ad389b2b953320de0728e25ca64b02890007e5ebde579885"), looks := false }, kinds := [], alts := [], laidByText := true, laidKinds := [.data, .data, .data, .pinned], laidTests := true, laidLooks := .later }
def FnExactCountInUptoCardSaid : Prop := Claim7.holds Tryd.pinned (.plain (OpenSpec.upto fnExactCountInSpec)) fnExactCountInUptoCard

/-- THE SECOND FORM's CARD OF 'laws.FnExactSameValue'. -/
def fnExactSameValueUptoCard : Claim7 := { stood := { row := fnExactSameValueUptoRow, standIns := [], harness := (true, "7b5d046ea79ec434ad389b2b953320de0728e25ca64b02890007e5ebde579885"), looks := false }, kinds := [], alts := [], laidByText := true, laidKinds := [.data, .data, .data, .pinned], laidTests := true, laidLooks := .later }
def FnExactSameValueUptoCardSaid : Prop := Claim7.holds Tryd.pinned (.plain (OpenSpec.upto fnExactSameValueSpec)) fnExactSameValueUptoCard
end Rows
end Go.Proofs.YtlimlpidbjkofaaDoor
