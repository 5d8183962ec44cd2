/-
  DERIVED. GIVEN WITH THE SEED: THE CARDS: each row of YtkgegihkhdgdoaaDoorRows.lean that lists a variable, with what it lists TIED to the program's text (the seventh form; the later family's looks); each row that meets fmt, with fmt's text TOLD by the authors' own Lean function (tested against real Go, not proved from fmt's source: count such statements apart). THE CARD IS WHAT COUNTS. Prove the row's statement (the work); the ties are given (YtkgegihkhdgdoaaDoorTie.lean); close each card by the builder's one call (the guide's Derived/Test/ToyasCard.lean, 'card_holds'). Laid BY PROGRAM, IN A SANDBOX (cutbox-door.mjs). By AI agents, Wed Nov 11 2026. No macro, syntax, notation, axiom, sorry.
-/
import Derived.Test.YtkgegihkhdgdoaaDoorRows
import GoSem.ClaimSeven
namespace Go.Proofs.YtkgegihkhdgdoaaDoor
namespace Rows

/-- THE TIED CARD OF 'incipitlaw06.KeyedShows'. -/
def keyedShowsCard : Claim7 := { stood := { row := keyedShowsRow, standIns := [], harness := (true, "c1f1862bd07e879b5e85d3fd404fe12bd60753a1caa0e6a093cf80f72f51e49b"), looks := false }, kinds := [], alts := [], laidByText := true, laidKinds := [.data], laidTests := true, laidLooks := .later }
def KeyedShowsCardSaid : Prop := Claim7.holds Tryd.pinned (.plain (OpenSpec.ofChange keyedShowsSpec)) keyedShowsCard

/-- THE TIED CARD OF 'incipitlaw06.KeyedLooks'. -/
def keyedLooksCard : Claim7 := { stood := { row := keyedLooksRow, standIns := [], harness := (true, "c1f1862bd07e879b5e85d3fd404fe12bd60753a1caa0e6a093cf80f72f51e49b"), looks := false }, kinds := [], alts := [], laidByText := true, laidKinds := [.data], laidTests := true, laidLooks := .later }
def KeyedLooksCardSaid : Prop := Claim7.holds Tryd.pinned (.plain (OpenSpec.ofChange keyedLooksSpec)) keyedLooksCard

/-- THE TIED CARD OF 'incipitlaw06.KeyedBytes'. -/
def keyedBytesCard : Claim7 := { stood := { row := keyedBytesRow, standIns := [], harness := (true, "c1f1862bd07e879b5e85d3fd404fe12bd60753a1caa0e6a093cf80f72f51e49b"), looks := false }, kinds := [], alts := [], laidByText := true, laidKinds := [.data], laidTests := true, laidLooks := .later }
def KeyedBytesCardSaid : Prop := Claim7.holds Tryd.pinned (.plain (OpenSpec.ofChange keyedBytesSpec)) keyedBytesCard

/-- THE TIED CARD OF 'incipitlaw06.KeyedTells'. -/
def keyedTellsCard : Claim7 := { stood := { row := keyedTellsRow, standIns := [], harness := (true, "c1f1862bd07e879b5e85d3fd404fe12bd60753a1caa0e6a093cf80f72f51e49b"), looks := false }, kinds := [], alts := [], laidByText := true, laidKinds := [.data], laidTests := true, laidLooks := .later }
def KeyedTellsCardSaid : Prop := Claim7.holds Tryd.pinned (.plain (OpenSpec.ofChange keyedTellsSpec)) keyedTellsCard

/-- THE TIED CARD OF 'incipitlaw06.KeyedBinds'. -/
def keyedBindsCard : Claim7 := { stood := { row := keyedBindsRow, standIns := [], harness := (true, "c1f1862bd07e879b5e85d3fd404fe12bd60753a1caa0e6a093cf80f72f51e49b"), looks := false }, kinds := [], alts := [], laidByText := true, laidKinds := [.data], laidTests := true, laidLooks := .later }
def KeyedBindsCardSaid : Prop := Claim7.holds Tryd.pinned (.plain (OpenSpec.ofChange keyedBindsSpec)) keyedBindsCard

/-- THE TIED CARD OF 'incipitlaw06.KeyedBack'. -/
def keyedBackCard : Claim7 := { stood := { row := keyedBackRow, standIns := [], harness := (true, "c1f1862bd07e879b5e85d3fd404fe12bd60753a1caa0e6a093cf80f72f51e49b"), looks := false }, kinds := [], alts := [], laidByText := true, laidKinds := [.data], laidTests := true, laidLooks := .later }
def KeyedBackCardSaid : Prop := Claim7.holds Tryd.pinned (.plain (OpenSpec.ofChange keyedBackSpec)) keyedBackCard

/-- THE SECOND FORM's CARD OF 'incipitlaw06.KeyedShows'. -/
def keyedShowsUptoCard : Claim7 := { stood := { row := keyedShowsUptoRow, standIns := [], harness := (true, "c1f1862bd07e879b5e85d3fd404fe12bd60753a1caa0e6a093cf80f72f51e49b"), looks := false }, kinds := [], alts := [], laidByText := true, laidKinds := [.data], laidTests := true, laidLooks := .later }
def KeyedShowsUptoCardSaid : Prop := Claim7.holds Tryd.pinned (.plain (OpenSpec.upto keyedShowsSpec)) keyedShowsUptoCard

/-- THE SECOND FORM's CARD OF 'incipitlaw06.KeyedLooks'. -/
def keyedLooksUptoCard : Claim7 := { stood := { row := keyedLooksUptoRow, standIns := [], harness := (true, "c1f1862bd07e879b5e85d3fd404fe12bd60753a1caa0e6a093cf80f72f51e49b"), looks := false }, kinds := [], alts := [], laidByText := true, laidKinds := [.data], laidTests := true, laidLooks := .later }
def KeyedLooksUptoCardSaid : Prop := Claim7.holds Tryd.pinned (.plain (OpenSpec.upto keyedLooksSpec)) keyedLooksUptoCard

/-- THE SECOND FORM's CARD OF 'incipitlaw06.KeyedBytes'. -/
def keyedBytesUptoCard : Claim7 := { stood := { row := keyedBytesUptoRow, standIns := [], harness := (true, "c1f1862bd07e879b5e85d3fd404fe12bd60753a1caa0e6a093cf80f72f51e49b"), looks := false }, kinds := [], alts := [], laidByText := true, laidKinds := [.data], laidTests := true, laidLooks := .later }
def KeyedBytesUptoCardSaid : Prop := Claim7.holds Tryd.pinned (.plain (OpenSpec.upto keyedBytesSpec)) keyedBytesUptoCard

/-- THE SECOND FORM's CARD OF 'incipitlaw06.KeyedTells'. -/
def keyedTellsUptoCard : Claim7 := { stood := { row := keyedTellsUptoRow, standIns := [], harness := (true, "c1f1862bd07e879b5e85d3fd404fe12bd60753a1caa0e6a093cf80f72f51e49b"), looks := false }, kinds := [], alts := [], laidByText := true, laidKinds := [.data], laidTests := true, laidLooks := .later }
def KeyedTellsUptoCardSaid : Prop := Claim7.holds Tryd.pinned (.plain (OpenSpec.upto keyedTellsSpec)) keyedTellsUptoCard

/-- THE SECOND FORM's CARD OF 'incipitlaw06.KeyedBinds'. -/
def keyedBindsUptoCard : Claim7 := { stood := { row := keyedBindsUptoRow, standIns := [], harness := (true, "c1f1862bd07e879b5e85d3fd404fe12bd60753a1caa0e6a093cf80f72f51e49b"), looks := false }, kinds := [], alts := [], laidByText := true, laidKinds := [.data], laidTests := true, laidLooks := .later }
def KeyedBindsUptoCardSaid : Prop := Claim7.holds Tryd.pinned (.plain (OpenSpec.upto keyedBindsSpec)) keyedBindsUptoCard

/-- THE SECOND FORM's CARD OF 'incipitlaw06.KeyedBack'. -/
def keyedBackUptoCard : Claim7 := { stood := { row := keyedBackUptoRow, standIns := [], harness := (true, "c1f1862bd07e879b5e85d3fd404fe12bd60753a1caa0e6a093cf80f72f51e49b"), looks := false }, kinds := [], alts := [], laidByText := true, laidKinds := [.data], laidTests := true, laidLooks := .later }
def KeyedBackUptoCardSaid : Prop := Claim7.holds Tryd.pinned (.plain (OpenSpec.upto keyedBackSpec)) keyedBackUptoCard
end Rows
end Go.Proofs.YtkgegihkhdgdoaaDoor
