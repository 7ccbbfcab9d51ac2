/-
  DERIVED. GIVEN WITH THE SEED: THE CARDS: each row of YtendmemcgbmmlaaDoorRows.lean that lists a variable, with what it lists TIED to the program's text (the seventh form; the later family's looks); each row that meets fmt, with fmt's text TOLD by the authors' own Lean function (tested against real Go, not proved from fmt's source: count such statements apart). THE CARD IS WHAT COUNTS. Prove the row's statement (the work); the ties are given (YtendmemcgbmmlaaDoorTie.lean); close each card by the builder's one call (the guide's Derived/Test/ToyasCard.lean, 'card_holds'). Laid BY PROGRAM, IN A SANDBOX (cutbox-door.mjs). By AI agents, Wed Nov 11 2026. No macro, syntax, notation, axiom, sorry.
-/
import Derived.Test.YtendmemcgbmmlaaDoorRows
import GoSem.ClaimSeven
namespace Go.Proofs.YtendmemcgbmmlaaDoor
namespace Rows

/-- THE TIED CARD OF 'laws.FnTypes'. -/
def fnTypesCard : Claim7 := { stood := { row := fnTypesRow, standIns := [], harness := (true, "38f4965e94a140bd16f01845467d0ba7a870ebd9a7fbd8fc6332e99c24af66ac"), looks := true }, kinds := [], alts := [], laidByText := true, laidKinds := [.data, .data, .data, .sentinel, .sentinel, .data], laidTests := true, laidLooks := .later }
def FnTypesCardSaid : Prop := Claim7.holds Tryd.pinned (.plain (OpenSpec.ofChange fnTypesSpec)) fnTypesCard

/-- THE TIED CARD OF 'laws.FnExactGoodType'. -/
def fnExactGoodTypeCard : Claim7 := { stood := { row := fnExactGoodTypeRow, standIns := [], harness := (true, "38f4965e94a140bd16f01845467d0ba7a870ebd9a7fbd8fc6332e99c24af66ac"), looks := true }, kinds := [], alts := [], laidByText := true, laidKinds := [.data], laidTests := true, laidLooks := .later }
def FnExactGoodTypeCardSaid : Prop := Claim7.holds Tryd.pinned (.plain (OpenSpec.ofChange fnExactGoodTypeSpec)) fnExactGoodTypeCard

/-- THE TIED CARD OF 'laws.FnExactTypeText'. -/
def fnExactTypeTextCard : Claim7 := { stood := { row := fnExactTypeTextRow, standIns := [], harness := (true, "38f4965e94a140bd16f01845467d0ba7a870ebd9a7fbd8fc6332e99c24af66ac"), looks := true }, kinds := [], alts := [], laidByText := true, laidKinds := [.data, .data, .data, .data], laidTests := true, laidLooks := .later }
def FnExactTypeTextCardSaid : Prop := Claim7.holds Tryd.pinned (.plain (OpenSpec.ofChange fnExactTypeTextSpec)) fnExactTypeTextCard

/-- THE TIED CARD OF 'laws.FnExactReadType'. -/
def fnExactReadTypeCard : Claim7 := { stood := { row := fnExactReadTypeRow, standIns := [], harness := (true, "38f4965e94a140bd16f01845467d0ba7a870ebd9a7fbd8fc6332e99c24af66ac"), looks := true }, kinds := [], alts := [], laidByText := true, laidKinds := [.data, .data, .data, .sentinel, .sentinel, .data], laidTests := true, laidLooks := .later }
def FnExactReadTypeCardSaid : Prop := Claim7.holds Tryd.pinned (.plain (OpenSpec.ofChange fnExactReadTypeSpec)) fnExactReadTypeCard

/-- THE TIED CARD OF 'laws.FnExactSizeOf'. -/
def fnExactSizeOfCard : Claim7 := { stood := { row := fnExactSizeOfRow, standIns := [], harness := (true, "38f4965e94a140bd16f01845467d0ba7a870ebd9a7fbd8fc6332e99c24af66ac"), looks := true }, kinds := [], alts := [], laidByText := true, laidKinds := [.data], laidTests := true, laidLooks := .later }
def FnExactSizeOfCardSaid : Prop := Claim7.holds Tryd.pinned (.plain (OpenSpec.ofChange fnExactSizeOfSpec)) fnExactSizeOfCard

/-- THE SECOND FORM's CARD OF 'laws.FnTypes'. -/
def fnTypesUptoCard : Claim7 := { stood := { row := fnTypesUptoRow, standIns := [], harness := (true, "38f4965e94a140bd16f01845467d0ba7a870ebd9a7fbd8fc6332e99c24af66ac"), looks := true }, kinds := [], alts := [], laidByText := true, laidKinds := [.data, .data, .data, .sentinel, .sentinel, .data], laidTests := true, laidLooks := .later }
def FnTypesUptoCardSaid : Prop := Claim7.holds Tryd.pinned (.plain (OpenSpec.upto fnTypesSpec)) fnTypesUptoCard

/-- THE SECOND FORM's CARD OF 'laws.FnExactGoodType'. -/
def fnExactGoodTypeUptoCard : Claim7 := { stood := { row := fnExactGoodTypeUptoRow, standIns := [], harness := (true, "38f4965e94a140bd16f01845467d0ba7a870ebd9a7fbd8fc6332e99c24af66ac"), looks := true }, kinds := [], alts := [], laidByText := true, laidKinds := [.data], laidTests := true, laidLooks := .later }
def FnExactGoodTypeUptoCardSaid : Prop := Claim7.holds Tryd.pinned (.plain (OpenSpec.upto fnExactGoodTypeSpec)) fnExactGoodTypeUptoCard

/-- THE SECOND FORM's CARD OF 'laws.FnExactTypeText'. -/
def fnExactTypeTextUptoCard : Claim7 := { stood := { row := fnExactTypeTextUptoRow, standIns := [], harness := (true, "38f4965e94a140bd16f01845467d0ba7a870ebd9a7fbd8fc6332e99c24af66ac"), looks := true }, kinds := [], alts := [], laidByText := true, laidKinds := [.data, .data, .data, .data], laidTests := true, laidLooks := .later }
def FnExactTypeTextUptoCardSaid : Prop := Claim7.holds Tryd.pinned (.plain (OpenSpec.upto fnExactTypeTextSpec)) fnExactTypeTextUptoCard

/-- THE SECOND FORM's CARD OF 'laws.FnExactReadType'. -/
def fnExactReadTypeUptoCard : Claim7 := { stood := { row := fnExactReadTypeUptoRow, standIns := [], harness := (true, "38f4965e94a140bd16f01845467d0ba7a870ebd9a7fbd8fc6332e99c24af66ac"), looks := true }, kinds := [], alts := [], laidByText := true, laidKinds := [.data, .data, .data, .sentinel, .sentinel, .data], laidTests := true, laidLooks := .later }
def FnExactReadTypeUptoCardSaid : Prop := Claim7.holds Tryd.pinned (.plain (OpenSpec.upto fnExactReadTypeSpec)) fnExactReadTypeUptoCard

/-- THE SECOND FORM's CARD OF 'laws.FnExactSizeOf'. -/
def fnExactSizeOfUptoCard : Claim7 := { stood := { row := fnExactSizeOfUptoRow, standIns := [], harness := (true, "38f4965e94a140bd16f01845467d0ba7a870ebd9a7fbd8fc6332e99c24af66ac"), looks := true }, kinds := [], alts := [], laidByText := true, laidKinds := [.data], laidTests := true, laidLooks := .later }
def FnExactSizeOfUptoCardSaid : Prop := Claim7.holds Tryd.pinned (.plain (OpenSpec.upto fnExactSizeOfSpec)) fnExactSizeOfUptoCard
end Rows
end Go.Proofs.YtendmemcgbmmlaaDoor
