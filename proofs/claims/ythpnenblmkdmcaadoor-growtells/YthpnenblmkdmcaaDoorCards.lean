/-
  DERIVED. GIVEN WITH THE SEED: THE CARDS: each row of YthpnenblmkdmcaaDoorRows.lean that lists a variable, with what it lists TIED to the program's text (the seventh form; the later family's looks); each row that meets fmt, with fmt's text TOLD by the authors' own Lean function (tested against real Go, not proved from fmt's source: count such statements apart). THE CARD IS WHAT COUNTS. Prove the row's statement (the work); the ties are given (YthpnenblmkdmcaaDoorTie.lean); close each card by the builder's one call (the guide's Derived/Test/ToyasCard.lean, 'card_holds'). Laid BY PROGRAM, IN A SANDBOX (cutbox-door.mjs). By AI agents, Wed Nov 11 2026. No macro, syntax, notation, axiom, sorry.
-/
import Derived.Test.YthpnenblmkdmcaaDoorRows
import GoSem.ClaimSeven
namespace Go.Proofs.YthpnenblmkdmcaaDoor
namespace Rows

/-- THE TIED CARD OF 'incipitlaw05.GrowPaths'. -/
def growPathsCard : Claim7 := { stood := { row := growPathsRow, standIns := [], harness := (true, "a86012df256c43ff847f1e8307950e0d1ae1401b809775071c7700fcd8f19f6f"), looks := false }, kinds := [], alts := [], laidByText := true, laidKinds := [.data], laidTests := true, laidLooks := .later }
def GrowPathsCardSaid : Prop := Claim7.holds Tryd.pinned (.plain (OpenSpec.ofChange growPathsSpec)) growPathsCard

/-- THE TIED CARD OF 'incipitlaw05.GrowTells'. -/
def growTellsCard : Claim7 := { stood := { row := growTellsRow, standIns := [], harness := (true, "a86012df256c43ff847f1e8307950e0d1ae1401b809775071c7700fcd8f19f6f"), looks := false }, kinds := [], alts := [], laidByText := true, laidKinds := [.data], laidTests := true, laidLooks := .later }
def GrowTellsCardSaid : Prop := Claim7.holds Tryd.pinned (.plain (OpenSpec.ofChange growTellsSpec)) growTellsCard

/-- THE TIED CARD OF 'incipitlaw05.GrowShows'. -/
def growShowsCard : Claim7 := { stood := { row := growShowsRow, standIns := [], harness := (true, "a86012df256c43ff847f1e8307950e0d1ae1401b809775071c7700fcd8f19f6f"), looks := false }, kinds := [], alts := [], laidByText := true, laidKinds := [.data], laidTests := true, laidLooks := .later }
def GrowShowsCardSaid : Prop := Claim7.holds Tryd.pinned (.plain (OpenSpec.ofChange growShowsSpec)) growShowsCard

/-- THE TIED CARD OF 'incipitlaw05.GrowBinds'. -/
def growBindsCard : Claim7 := { stood := { row := growBindsRow, standIns := [], harness := (true, "a86012df256c43ff847f1e8307950e0d1ae1401b809775071c7700fcd8f19f6f"), looks := false }, kinds := [], alts := [], laidByText := true, laidKinds := [.data], laidTests := true, laidLooks := .later }
def GrowBindsCardSaid : Prop := Claim7.holds Tryd.pinned (.plain (OpenSpec.ofChange growBindsSpec)) growBindsCard

/-- THE TIED CARD OF 'incipitlaw05.GrowOn'. -/
def growOnCard : Claim7 := { stood := { row := growOnRow, standIns := [], harness := (true, "a86012df256c43ff847f1e8307950e0d1ae1401b809775071c7700fcd8f19f6f"), looks := false }, kinds := [], alts := [], laidByText := true, laidKinds := [.data], laidTests := true, laidLooks := .later }
def GrowOnCardSaid : Prop := Claim7.holds Tryd.pinned (.plain (OpenSpec.ofChange growOnSpec)) growOnCard

/-- THE TIED CARD OF 'incipitlaw05.GrowShort'. -/
def growShortCard : Claim7 := { stood := { row := growShortRow, standIns := [], harness := (true, "a86012df256c43ff847f1e8307950e0d1ae1401b809775071c7700fcd8f19f6f"), looks := false }, kinds := [], alts := [], laidByText := true, laidKinds := [.data], laidTests := true, laidLooks := .later }
def GrowShortCardSaid : Prop := Claim7.holds Tryd.pinned (.plain (OpenSpec.ofChange growShortSpec)) growShortCard

/-- THE SECOND FORM's CARD OF 'incipitlaw05.GrowPaths'. -/
def growPathsUptoCard : Claim7 := { stood := { row := growPathsUptoRow, standIns := [], harness := (true, "a86012df256c43ff847f1e8307950e0d1ae1401b809775071c7700fcd8f19f6f"), looks := false }, kinds := [], alts := [], laidByText := true, laidKinds := [.data], laidTests := true, laidLooks := .later }
def GrowPathsUptoCardSaid : Prop := Claim7.holds Tryd.pinned (.plain (OpenSpec.upto growPathsSpec)) growPathsUptoCard

/-- THE SECOND FORM's CARD OF 'incipitlaw05.GrowTells'. -/
def growTellsUptoCard : Claim7 := { stood := { row := growTellsUptoRow, standIns := [], harness := (true, "a86012df256c43ff847f1e8307950e0d1ae1401b809775071c7700fcd8f19f6f"), looks := false }, kinds := [], alts := [], laidByText := true, laidKinds := [.data], laidTests := true, laidLooks := .later }
def GrowTellsUptoCardSaid : Prop := Claim7.holds Tryd.pinned (.plain (OpenSpec.upto growTellsSpec)) growTellsUptoCard

/-- THE SECOND FORM's CARD OF 'incipitlaw05.GrowShows'. -/
def growShowsUptoCard : Claim7 := { stood := { row := growShowsUptoRow, standIns := [], harness := (true, "a86012df256c43ff847f1e8307950e0d1ae1401b809775071c7700fcd8f19f6f"), looks := false }, kinds := [], alts := [], laidByText := true, laidKinds := [.data], laidTests := true, laidLooks := .later }
def GrowShowsUptoCardSaid : Prop := Claim7.holds Tryd.pinned (.plain (OpenSpec.upto growShowsSpec)) growShowsUptoCard

/-- THE SECOND FORM's CARD OF 'incipitlaw05.GrowBinds'. -/
def growBindsUptoCard : Claim7 := { stood := { row := growBindsUptoRow, standIns := [], harness := (true, "a86012df256c43ff847f1e8307950e0d1ae1401b809775071c7700fcd8f19f6f"), looks := false }, kinds := [], alts := [], laidByText := true, laidKinds := [.data], laidTests := true, laidLooks := .later }
def GrowBindsUptoCardSaid : Prop := Claim7.holds Tryd.pinned (.plain (OpenSpec.upto growBindsSpec)) growBindsUptoCard

/-- THE SECOND FORM's CARD OF 'incipitlaw05.GrowOn'. -/
def growOnUptoCard : Claim7 := { stood := { row := growOnUptoRow, standIns := [], harness := (true, "a86012df256c43ff847f1e8307950e0d1ae1401b809775071c7700fcd8f19f6f"), looks := false }, kinds := [], alts := [], laidByText := true, laidKinds := [.data], laidTests := true, laidLooks := .later }
def GrowOnUptoCardSaid : Prop := Claim7.holds Tryd.pinned (.plain (OpenSpec.upto growOnSpec)) growOnUptoCard

/-- THE SECOND FORM's CARD OF 'incipitlaw05.GrowShort'. -/
def growShortUptoCard : Claim7 := { stood := { row := growShortUptoRow, standIns := [], harness := (true, "a86012df256c43ff847f1e8307950e0d1ae1401b809775071c7700fcd8f19f6f"), looks := false }, kinds := [], alts := [], laidByText := true, laidKinds := [.data], laidTests := true, laidLooks := .later }
def GrowShortUptoCardSaid : Prop := Claim7.holds Tryd.pinned (.plain (OpenSpec.upto growShortSpec)) growShortUptoCard
end Rows
end Go.Proofs.YthpnenblmkdmcaaDoor
