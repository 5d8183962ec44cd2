/-
  DERIVED. GIVEN WITH THE SEED: THE CARDS: each row of YtcfbaijibghcaaaDoorRows.lean that lists a variable, with what it lists TIED to the program's text (the seventh form; the later family's looks); each row that meets fmt, with fmt's text TOLD by the authors' own Lean function (tested against real Go, not proved from fmt's source: count such statements apart). THE CARD IS WHAT COUNTS. Prove the row's statement (the work); the ties are given (YtcfbaijibghcaaaDoorTie.lean); close each card by the builder's one call (the guide's Derived/Test/ToyasCard.lean, 'card_holds'). Laid BY PROGRAM, IN A SANDBOX (cutbox-door.mjs). By AI agents, Wed Nov 11 2026. No macro, syntax, notation, axiom, sorry.
-/
import Derived.Test.YtcfbaijibghcaaaDoorRows
import GoSem.ClaimSeven
namespace Go.Proofs.YtcfbaijibghcaaaDoor
namespace Rows

/-- THE TIED CARD OF 'incipitlaw03.SealNotes'. -/
def sealNotesCard : Claim7 := { stood := { row := sealNotesRow, standIns := [], harness := (true, "454cfa302fad30653fde19c27725110deba72e03795038ae2fe03f0a74e9882e"), looks := false }, kinds := [], alts := [], laidByText := true, laidKinds := [.data], laidTests := true, laidLooks := .later }
def SealNotesCardSaid : Prop := Claim7.holds Tryd.pinned (.plain (OpenSpec.ofChange sealNotesSpec)) sealNotesCard

/-- THE TIED CARD OF 'incipitlaw03.SealNobody'. -/
def sealNobodyCard : Claim7 := { stood := { row := sealNobodyRow, standIns := [], harness := (true, "454cfa302fad30653fde19c27725110deba72e03795038ae2fe03f0a74e9882e"), looks := false }, kinds := [], alts := [], laidByText := true, laidKinds := [.data], laidTests := true, laidLooks := .later }
def SealNobodyCardSaid : Prop := Claim7.holds Tryd.pinned (.plain (OpenSpec.ofChange sealNobodySpec)) sealNobodyCard

/-- THE TIED CARD OF 'incipitlaw03.SealClashes'. -/
def sealClashesCard : Claim7 := { stood := { row := sealClashesRow, standIns := [], harness := (true, "454cfa302fad30653fde19c27725110deba72e03795038ae2fe03f0a74e9882e"), looks := false }, kinds := [], alts := [], laidByText := true, laidKinds := [.data], laidTests := true, laidLooks := .later }
def SealClashesCardSaid : Prop := Claim7.holds Tryd.pinned (.plain (OpenSpec.ofChange sealClashesSpec)) sealClashesCard

/-- THE TIED CARD OF 'incipitlaw03.SealApart'. -/
def sealApartCard : Claim7 := { stood := { row := sealApartRow, standIns := [], harness := (true, "454cfa302fad30653fde19c27725110deba72e03795038ae2fe03f0a74e9882e"), looks := false }, kinds := [], alts := [], laidByText := true, laidKinds := [.data], laidTests := true, laidLooks := .later }
def SealApartCardSaid : Prop := Claim7.holds Tryd.pinned (.plain (OpenSpec.ofChange sealApartSpec)) sealApartCard

/-- THE TIED CARD OF 'incipitlaw03.SealMeets'. -/
def sealMeetsCard : Claim7 := { stood := { row := sealMeetsRow, standIns := [], harness := (true, "454cfa302fad30653fde19c27725110deba72e03795038ae2fe03f0a74e9882e"), looks := false }, kinds := [], alts := [], laidByText := true, laidKinds := [.data], laidTests := true, laidLooks := .later }
def SealMeetsCardSaid : Prop := Claim7.holds Tryd.pinned (.plain (OpenSpec.ofChange sealMeetsSpec)) sealMeetsCard

/-- THE TIED CARD OF 'incipitlaw03.SealGrows'. -/
def sealGrowsCard : Claim7 := { stood := { row := sealGrowsRow, standIns := [], harness := (true, "454cfa302fad30653fde19c27725110deba72e03795038ae2fe03f0a74e9882e"), looks := false }, kinds := [], alts := [], laidByText := true, laidKinds := [.data], laidTests := true, laidLooks := .later }
def SealGrowsCardSaid : Prop := Claim7.holds Tryd.pinned (.plain (OpenSpec.ofChange sealGrowsSpec)) sealGrowsCard

/-- THE SECOND FORM's CARD OF 'incipitlaw03.SealNotes'. -/
def sealNotesUptoCard : Claim7 := { stood := { row := sealNotesUptoRow, standIns := [], harness := (true, "454cfa302fad30653fde19c27725110deba72e03795038ae2fe03f0a74e9882e"), looks := false }, kinds := [], alts := [], laidByText := true, laidKinds := [.data], laidTests := true, laidLooks := .later }
def SealNotesUptoCardSaid : Prop := Claim7.holds Tryd.pinned (.plain (OpenSpec.upto sealNotesSpec)) sealNotesUptoCard

/-- THE SECOND FORM's CARD OF 'incipitlaw03.SealNobody'. -/
def sealNobodyUptoCard : Claim7 := { stood := { row := sealNobodyUptoRow, standIns := [], harness := (true, "454cfa302fad30653fde19c27725110deba72e03795038ae2fe03f0a74e9882e"), looks := false }, kinds := [], alts := [], laidByText := true, laidKinds := [.data], laidTests := true, laidLooks := .later }
def SealNobodyUptoCardSaid : Prop := Claim7.holds Tryd.pinned (.plain (OpenSpec.upto sealNobodySpec)) sealNobodyUptoCard

/-- THE SECOND FORM's CARD OF 'incipitlaw03.SealClashes'. -/
def sealClashesUptoCard : Claim7 := { stood := { row := sealClashesUptoRow, standIns := [], harness := (true, "454cfa302fad30653fde19c27725110deba72e03795038ae2fe03f0a74e9882e"), looks := false }, kinds := [], alts := [], laidByText := true, laidKinds := [.data], laidTests := true, laidLooks := .later }
def SealClashesUptoCardSaid : Prop := Claim7.holds Tryd.pinned (.plain (OpenSpec.upto sealClashesSpec)) sealClashesUptoCard

/-- THE SECOND FORM's CARD OF 'incipitlaw03.SealApart'. -/
def sealApartUptoCard : Claim7 := { stood := { row := sealApartUptoRow, standIns := [], harness := (true, "454cfa302fad30653fde19c27725110deba72e03795038ae2fe03f0a74e9882e"), looks := false }, kinds := [], alts := [], laidByText := true, laidKinds := [.data], laidTests := true, laidLooks := .later }
def SealApartUptoCardSaid : Prop := Claim7.holds Tryd.pinned (.plain (OpenSpec.upto sealApartSpec)) sealApartUptoCard

/-- THE SECOND FORM's CARD OF 'incipitlaw03.SealMeets'. -/
def sealMeetsUptoCard : Claim7 := { stood := { row := sealMeetsUptoRow, standIns := [], harness := (true, "454cfa302fad30653fde19c27725110deba72e03795038ae2fe03f0a74e9882e"), looks := false }, kinds := [], alts := [], laidByText := true, laidKinds := [.data], laidTests := true, laidLooks := .later }
def SealMeetsUptoCardSaid : Prop := Claim7.holds Tryd.pinned (.plain (OpenSpec.upto sealMeetsSpec)) sealMeetsUptoCard

/-- THE SECOND FORM's CARD OF 'incipitlaw03.SealGrows'. -/
def sealGrowsUptoCard : Claim7 := { stood := { row := sealGrowsUptoRow, standIns := [], harness := (true, "454cfa302fad30653fde19c27725110deba72e03795038ae2fe03f0a74e9882e"), looks := false }, kinds := [], alts := [], laidByText := true, laidKinds := [.data], laidTests := true, laidLooks := .later }
def SealGrowsUptoCardSaid : Prop := Claim7.holds Tryd.pinned (.plain (OpenSpec.upto sealGrowsSpec)) sealGrowsUptoCard
end Rows
end Go.Proofs.YtcfbaijibghcaaaDoor
