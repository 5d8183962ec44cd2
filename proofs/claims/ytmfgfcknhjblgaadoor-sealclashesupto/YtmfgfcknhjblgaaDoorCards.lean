/-
  DERIVED. GIVEN WITH THE SEED: THE CARDS: each row of YtmfgfcknhjblgaaDoorRows.lean that lists a variable, with what it lists TIED to the program's text (the seventh form; the later family's looks); each row that meets fmt, with fmt's text TOLD by the authors' own Lean function (tested against real Go, not proved from fmt's source: count such statements apart). THE CARD IS WHAT COUNTS. Prove the row's statement (the work); the ties are given (YtmfgfcknhjblgaaDoorTie.lean); close each card by the builder's one call (the guide's Derived/Test/ToyasCard.lean, 'card_holds'). Laid BY PROGRAM, IN A SANDBOX (cutbox-door.mjs). By AI agents, Wed Nov 11 2026. No macro, syntax, notation, axiom, sorry.
-/
import Derived.Test.YtmfgfcknhjblgaaDoorRows
import GoSem.ClaimSeven
namespace Go.Proofs.YtmfgfcknhjblgaaDoor
namespace Rows

/-- THE TIED CARD OF 'incipitlaw01.ShaNobody'. -/
def shaNobodyCard : Claim7 := { stood := { row := shaNobodyRow, standIns := [], harness := (true, "f1bfafe6e2e6e2a4709a3893ebb4ea87deeb129187941d105b4c987d03a83540"), looks := false }, kinds := [], alts := [], laidByText := true, laidKinds := [.data], laidTests := true, laidLooks := .later }
def ShaNobodyCardSaid : Prop := Claim7.holds Tryd.pinned (.plain (OpenSpec.ofChange shaNobodySpec)) shaNobodyCard

/-- THE TIED CARD OF 'incipitlaw01.ShaSums'. -/
def shaSumsCard : Claim7 := { stood := { row := shaSumsRow, standIns := [], harness := (true, "f1bfafe6e2e6e2a4709a3893ebb4ea87deeb129187941d105b4c987d03a83540"), looks := false }, kinds := [], alts := [], laidByText := true, laidKinds := [.data], laidTests := true, laidLooks := .later }
def ShaSumsCardSaid : Prop := Claim7.holds Tryd.pinned (.plain (OpenSpec.ofChange shaSumsSpec)) shaSumsCard

/-- THE TIED CARD OF 'incipitlaw01.ShaGoes'. -/
def shaGoesCard : Claim7 := { stood := { row := shaGoesRow, standIns := [], harness := (true, "f1bfafe6e2e6e2a4709a3893ebb4ea87deeb129187941d105b4c987d03a83540"), looks := false }, kinds := [], alts := [], laidByText := true, laidKinds := [.data], laidTests := true, laidLooks := .later }
def ShaGoesCardSaid : Prop := Claim7.holds Tryd.pinned (.plain (OpenSpec.ofChange shaGoesSpec)) shaGoesCard

/-- THE TIED CARD OF 'incipitlaw03.SealNobody'. -/
def sealNobodyCard : Claim7 := { stood := { row := sealNobodyRow, standIns := [], harness := (true, "f1bfafe6e2e6e2a4709a3893ebb4ea87deeb129187941d105b4c987d03a83540"), looks := false }, kinds := [], alts := [], laidByText := true, laidKinds := [.data], laidTests := true, laidLooks := .later }
def SealNobodyCardSaid : Prop := Claim7.holds Tryd.pinned (.plain (OpenSpec.ofChange sealNobodySpec)) sealNobodyCard

/-- THE TIED CARD OF 'incipitlaw03.SealNotes'. -/
def sealNotesCard : Claim7 := { stood := { row := sealNotesRow, standIns := [], harness := (true, "f1bfafe6e2e6e2a4709a3893ebb4ea87deeb129187941d105b4c987d03a83540"), looks := false }, kinds := [], alts := [], laidByText := true, laidKinds := [.data], laidTests := true, laidLooks := .later }
def SealNotesCardSaid : Prop := Claim7.holds Tryd.pinned (.plain (OpenSpec.ofChange sealNotesSpec)) sealNotesCard

/-- THE TIED CARD OF 'incipitlaw03.SealClashes'. -/
def sealClashesCard : Claim7 := { stood := { row := sealClashesRow, standIns := [], harness := (true, "f1bfafe6e2e6e2a4709a3893ebb4ea87deeb129187941d105b4c987d03a83540"), looks := false }, kinds := [], alts := [], laidByText := true, laidKinds := [.data], laidTests := true, laidLooks := .later }
def SealClashesCardSaid : Prop := Claim7.holds Tryd.pinned (.plain (OpenSpec.ofChange sealClashesSpec)) sealClashesCard

/-- THE SECOND FORM's CARD OF 'incipitlaw01.ShaNobody'. -/
def shaNobodyUptoCard : Claim7 := { stood := { row := shaNobodyUptoRow, standIns := [], harness := (true, "f1bfafe6e2e6e2a4709a3893ebb4ea87deeb129187941d105b4c987d03a83540"), looks := false }, kinds := [], alts := [], laidByText := true, laidKinds := [.data], laidTests := true, laidLooks := .later }
def ShaNobodyUptoCardSaid : Prop := Claim7.holds Tryd.pinned (.plain (OpenSpec.upto shaNobodySpec)) shaNobodyUptoCard

/-- THE SECOND FORM's CARD OF 'incipitlaw01.ShaSums'. -/
def shaSumsUptoCard : Claim7 := { stood := { row := shaSumsUptoRow, standIns := [], harness := (true, "f1bfafe6e2e6e2a4709a3893ebb4ea87deeb129187941d105b4c987d03a83540"), looks := false }, kinds := [], alts := [], laidByText := true, laidKinds := [.data], laidTests := true, laidLooks := .later }
def ShaSumsUptoCardSaid : Prop := Claim7.holds Tryd.pinned (.plain (OpenSpec.upto shaSumsSpec)) shaSumsUptoCard

/-- THE SECOND FORM's CARD OF 'incipitlaw01.ShaGoes'. -/
def shaGoesUptoCard : Claim7 := { stood := { row := shaGoesUptoRow, standIns := [], harness := (true, "f1bfafe6e2e6e2a4709a3893ebb4ea87deeb129187941d105b4c987d03a83540"), looks := false }, kinds := [], alts := [], laidByText := true, laidKinds := [.data], laidTests := true, laidLooks := .later }
def ShaGoesUptoCardSaid : Prop := Claim7.holds Tryd.pinned (.plain (OpenSpec.upto shaGoesSpec)) shaGoesUptoCard

/-- THE SECOND FORM's CARD OF 'incipitlaw03.SealNobody'. -/
def sealNobodyUptoCard : Claim7 := { stood := { row := sealNobodyUptoRow, standIns := [], harness := (true, "f1bfafe6e2e6e2a4709a3893ebb4ea87deeb129187941d105b4c987d03a83540"), looks := false }, kinds := [], alts := [], laidByText := true, laidKinds := [.data], laidTests := true, laidLooks := .later }
def SealNobodyUptoCardSaid : Prop := Claim7.holds Tryd.pinned (.plain (OpenSpec.upto sealNobodySpec)) sealNobodyUptoCard

/-- THE SECOND FORM's CARD OF 'incipitlaw03.SealNotes'. -/
def sealNotesUptoCard : Claim7 := { stood := { row := sealNotesUptoRow, standIns := [], harness := (true, "f1bfafe6e2e6e2a4709a3893ebb4ea87deeb129187941d105b4c987d03a83540"), looks := false }, kinds := [], alts := [], laidByText := true, laidKinds := [.data], laidTests := true, laidLooks := .later }
def SealNotesUptoCardSaid : Prop := Claim7.holds Tryd.pinned (.plain (OpenSpec.upto sealNotesSpec)) sealNotesUptoCard

/-- THE SECOND FORM's CARD OF 'incipitlaw03.SealClashes'. -/
def sealClashesUptoCard : Claim7 := { stood := { row := sealClashesUptoRow, standIns := [], harness := (true, "f1bfafe6e2e6e2a4709a3893ebb4ea87deeb129187941d105b4c987d03a83540"), looks := false }, kinds := [], alts := [], laidByText := true, laidKinds := [.data], laidTests := true, laidLooks := .later }
def SealClashesUptoCardSaid : Prop := Claim7.holds Tryd.pinned (.plain (OpenSpec.upto sealClashesSpec)) sealClashesUptoCard
end Rows
end Go.Proofs.YtmfgfcknhjblgaaDoor
