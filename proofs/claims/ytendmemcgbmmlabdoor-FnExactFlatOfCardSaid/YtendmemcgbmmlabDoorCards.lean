/-
  DERIVED. GIVEN WITH THE SEED: THE CARDS: each row of YtendmemcgbmmlabDoorRows.lean that lists a variable, with what it lists TIED to the program's text (the seventh form; the later family's looks); each row that meets fmt, with fmt's text TOLD by the authors' own Lean function (tested against real Go, not proved from fmt's source: count such statements apart). THE CARD IS WHAT COUNTS. Prove the row's statement (the work); the ties are given (YtendmemcgbmmlabDoorTie.lean); close each card by the builder's one call (the guide's Derived/Test/ToyasCard.lean, 'card_holds'). Laid BY PROGRAM, IN A SANDBOX (cutbox-door.mjs). By AI agents, Wed Nov 11 2026. No macro, syntax, notation, axiom, sorry.
-/
import Derived.Test.YtendmemcgbmmlabDoorRows
import GoSem.ClaimSeven
namespace Go.Proofs.YtendmemcgbmmlabDoor
namespace Rows

/-- THE TIED CARD OF 'laws.FnExactAlignOf'. -/
def fnExactAlignOfCard : Claim7 := { stood := { row := fnExactAlignOfRow, standIns := [], harness := (true, "bfea7f34bfb35a1b70d2d7ce4b584ea8ff7b5fb79f9a821621099213a2877095"), looks := false }, kinds := [], alts := [], laidByText := true, laidKinds := [.data], laidTests := true, laidLooks := .later }
def FnExactAlignOfCardSaid : Prop := Claim7.holds Tryd.pinned (.plain (OpenSpec.ofChange fnExactAlignOfSpec)) fnExactAlignOfCard

/-- THE TIED CARD OF 'laws.FnExactOffsetsOf'. -/
def fnExactOffsetsOfCard : Claim7 := { stood := { row := fnExactOffsetsOfRow, standIns := [], harness := (true, "bfea7f34bfb35a1b70d2d7ce4b584ea8ff7b5fb79f9a821621099213a2877095"), looks := false }, kinds := [], alts := [], laidByText := true, laidKinds := [.data], laidTests := true, laidLooks := .later }
def FnExactOffsetsOfCardSaid : Prop := Claim7.holds Tryd.pinned (.plain (OpenSpec.ofChange fnExactOffsetsOfSpec)) fnExactOffsetsOfCard

/-- THE TIED CARD OF 'laws.FnExactFlatOf'. -/
def fnExactFlatOfCard : Claim7 := { stood := { row := fnExactFlatOfRow, standIns := [], harness := (true, "bfea7f34bfb35a1b70d2d7ce4b584ea8ff7b5fb79f9a821621099213a2877095"), looks := false }, kinds := [], alts := [], laidByText := true, laidKinds := [.data], laidTests := true, laidLooks := .later }
def FnExactFlatOfCardSaid : Prop := Claim7.holds Tryd.pinned (.plain (OpenSpec.ofChange fnExactFlatOfSpec)) fnExactFlatOfCard

/-- THE TIED CARD OF 'laws.FnExactHasHandles'. -/
def fnExactHasHandlesCard : Claim7 := { stood := { row := fnExactHasHandlesRow, standIns := [], harness := (true, "bfea7f34bfb35a1b70d2d7ce4b584ea8ff7b5fb79f9a821621099213a2877095"), looks := false }, kinds := [], alts := [], laidByText := true, laidKinds := [.data], laidTests := true, laidLooks := .later }
def FnExactHasHandlesCardSaid : Prop := Claim7.holds Tryd.pinned (.plain (OpenSpec.ofChange fnExactHasHandlesSpec)) fnExactHasHandlesCard

/-- THE SECOND FORM's CARD OF 'laws.FnExactAlignOf'. -/
def fnExactAlignOfUptoCard : Claim7 := { stood := { row := fnExactAlignOfUptoRow, standIns := [], harness := (true, "bfea7f34bfb35a1b70d2d7ce4b584ea8ff7b5fb79f9a821621099213a2877095"), looks := false }, kinds := [], alts := [], laidByText := true, laidKinds := [.data], laidTests := true, laidLooks := .later }
def FnExactAlignOfUptoCardSaid : Prop := Claim7.holds Tryd.pinned (.plain (OpenSpec.upto fnExactAlignOfSpec)) fnExactAlignOfUptoCard

/-- THE SECOND FORM's CARD OF 'laws.FnExactOffsetsOf'. -/
def fnExactOffsetsOfUptoCard : Claim7 := { stood := { row := fnExactOffsetsOfUptoRow, standIns := [], harness := (true, "bfea7f34bfb35a1b70d2d7ce4b584ea8ff7b5fb79f9a821621099213a2877095"), looks := false }, kinds := [], alts := [], laidByText := true, laidKinds := [.data], laidTests := true, laidLooks := .later }
def FnExactOffsetsOfUptoCardSaid : Prop := Claim7.holds Tryd.pinned (.plain (OpenSpec.upto fnExactOffsetsOfSpec)) fnExactOffsetsOfUptoCard

/-- THE SECOND FORM's CARD OF 'laws.FnExactFlatOf'. -/
def fnExactFlatOfUptoCard : Claim7 := { stood := { row := fnExactFlatOfUptoRow, standIns := [], harness := (true, "bfea7f34bfb35a1b70d2d7ce4b584ea8ff7b5fb79f9a821621099213a2877095"), looks := false }, kinds := [], alts := [], laidByText := true, laidKinds := [.data], laidTests := true, laidLooks := .later }
def FnExactFlatOfUptoCardSaid : Prop := Claim7.holds Tryd.pinned (.plain (OpenSpec.upto fnExactFlatOfSpec)) fnExactFlatOfUptoCard

/-- THE SECOND FORM's CARD OF 'laws.FnExactHasHandles'. -/
def fnExactHasHandlesUptoCard : Claim7 := { stood := { row := fnExactHasHandlesUptoRow, standIns := [], harness := (true, "bfea7f34bfb35a1b70d2d7ce4b584ea8ff7b5fb79f9a821621099213a2877095"), looks := false }, kinds := [], alts := [], laidByText := true, laidKinds := [.data], laidTests := true, laidLooks := .later }
def FnExactHasHandlesUptoCardSaid : Prop := Claim7.holds Tryd.pinned (.plain (OpenSpec.upto fnExactHasHandlesSpec)) fnExactHasHandlesUptoCard
end Rows
end Go.Proofs.YtendmemcgbmmlabDoor
