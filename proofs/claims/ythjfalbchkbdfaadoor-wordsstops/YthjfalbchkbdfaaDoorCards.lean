/-
  DERIVED. GIVEN WITH THE SEED: THE CARDS: each row of YthjfalbchkbdfaaDoorRows.lean that lists a variable, with what it lists TIED to the program's text (the seventh form; the later family's looks); each row that meets fmt, with fmt's text TOLD by the authors' own Lean function (tested against real Go, not proved from fmt's source: count such statements apart). THE CARD IS WHAT COUNTS. Prove the row's statement (the work); the ties are given (YthjfalbchkbdfaaDoorTie.lean); close each card by the builder's one call (the guide's Derived/Test/ToyasCard.lean, 'card_holds'). Laid BY PROGRAM, IN A SANDBOX (cutbox-door.mjs). By AI agents, Wed Nov 11 2026. No macro, syntax, notation, axiom, sorry.
-/
import Derived.Test.YthjfalbchkbdfaaDoorRows
import GoSem.ClaimSeven
namespace Go.Proofs.YthjfalbchkbdfaaDoor
namespace Rows

/-- THE TIED CARD OF 'incipitlaw09.WordsTells'. -/
def wordsTellsCard : Claim7 := { stood := { row := wordsTellsRow, standIns := [], harness := (true, "4a8e75733e31a8f574f869af6517b2954e1ba45c81b6c7dc06ca4bb74ef04e17"), looks := false }, kinds := [], alts := [], laidByText := true, laidKinds := [.data, .data, .pinned], laidTests := true, laidLooks := .later }
def WordsTellsCardSaid : Prop := Claim7.holds Tryd.pinned (.plain (OpenSpec.ofChange wordsTellsSpec)) wordsTellsCard

/-- THE TIED CARD OF 'incipitlaw09.WordsOne'. -/
def wordsOneCard : Claim7 := { stood := { row := wordsOneRow, standIns := [], harness := (true, "4a8e75733e31a8f574f869af6517b2954e1ba45c81b6c7dc06ca4bb74ef04e17"), looks := false }, kinds := [], alts := [], laidByText := true, laidKinds := [.data, .data, .pinned], laidTests := true, laidLooks := .later }
def WordsOneCardSaid : Prop := Claim7.holds Tryd.pinned (.plain (OpenSpec.ofChange wordsOneSpec)) wordsOneCard

/-- THE TIED CARD OF 'incipitlaw09.WordsStops'. -/
def wordsStopsCard : Claim7 := { stood := { row := wordsStopsRow, standIns := [], harness := (true, "4a8e75733e31a8f574f869af6517b2954e1ba45c81b6c7dc06ca4bb74ef04e17"), looks := false }, kinds := [], alts := [], laidByText := true, laidKinds := [.data, .data, .data, .pinned], laidTests := true, laidLooks := .later }
def WordsStopsCardSaid : Prop := Claim7.holds Tryd.pinned (.plain (OpenSpec.ofChange wordsStopsSpec)) wordsStopsCard

/-- THE TIED CARD OF 'incipitlaw09.WordsParted'. -/
def wordsPartedCard : Claim7 := { stood := { row := wordsPartedRow, standIns := [], harness := (true, "4a8e75733e31a8f574f869af6517b2954e1ba45c81b6c7dc06ca4bb74ef04e17"), looks := false }, kinds := [], alts := [], laidByText := true, laidKinds := [.data, .data, .pinned], laidTests := true, laidLooks := .later }
def WordsPartedCardSaid : Prop := Claim7.holds Tryd.pinned (.plain (OpenSpec.ofChange wordsPartedSpec)) wordsPartedCard

/-- THE TIED CARD OF 'incipitlaw09.WordsLeft'. -/
def wordsLeftCard : Claim7 := { stood := { row := wordsLeftRow, standIns := [], harness := (true, "4a8e75733e31a8f574f869af6517b2954e1ba45c81b6c7dc06ca4bb74ef04e17"), looks := false }, kinds := [], alts := [], laidByText := true, laidKinds := [.data, .data, .pinned], laidTests := true, laidLooks := .later }
def WordsLeftCardSaid : Prop := Claim7.holds Tryd.pinned (.plain (OpenSpec.ofChange wordsLeftSpec)) wordsLeftCard

/-- THE TIED CARD OF 'incipitlaw09.WordsJoins'. -/
def wordsJoinsCard : Claim7 := { stood := { row := wordsJoinsRow, standIns := [], harness := (true, "4a8e75733e31a8f574f869af6517b2954e1ba45c81b6c7dc06ca4bb74ef04e17"), looks := false }, kinds := [], alts := [], laidByText := true, laidKinds := [.data, .data, .pinned], laidTests := true, laidLooks := .later }
def WordsJoinsCardSaid : Prop := Claim7.holds Tryd.pinned (.plain (OpenSpec.ofChange wordsJoinsSpec)) wordsJoinsCard

/-- THE SECOND FORM's CARD OF 'incipitlaw09.WordsTells'. -/
def wordsTellsUptoCard : Claim7 := { stood := { row := wordsTellsUptoRow, standIns := [], harness := (true, "4a8e75733e31a8f574f869af6517b2954e1ba45c81b6c7dc06ca4bb74ef04e17"), looks := false }, kinds := [], alts := [], laidByText := true, laidKinds := [.data, .data, .pinned], laidTests := true, laidLooks := .later }
def WordsTellsUptoCardSaid : Prop := Claim7.holds Tryd.pinned (.plain (OpenSpec.upto wordsTellsSpec)) wordsTellsUptoCard

/-- THE SECOND FORM's CARD OF 'incipitlaw09.WordsOne'. -/
def wordsOneUptoCard : Claim7 := { stood := { row := wordsOneUptoRow, standIns := [], harness := (true, "4a8e75733e31a8f574f869af6517b2954e1ba45c81b6c7dc06ca4bb74ef04e17"), looks := false }, kinds := [], alts := [], laidByText := true, laidKinds := [.data, .data, .pinned], laidTests := true, laidLooks := .later }
def WordsOneUptoCardSaid : Prop := Claim7.holds Tryd.pinned (.plain (OpenSpec.upto wordsOneSpec)) wordsOneUptoCard

/-- THE SECOND FORM's CARD OF 'incipitlaw09.WordsStops'. -/
def wordsStopsUptoCard : Claim7 := { stood := { row := wordsStopsUptoRow, standIns := [], harness := (true, "4a8e75733e31a8f574f869af6517b2954e1ba45c81b6c7dc06ca4bb74ef04e17"), looks := false }, kinds := [], alts := [], laidByText := true, laidKinds := [.data, .data, .data, .pinned], laidTests := true, laidLooks := .later }
def WordsStopsUptoCardSaid : Prop := Claim7.holds Tryd.pinned (.plain (OpenSpec.upto wordsStopsSpec)) wordsStopsUptoCard

/-- THE SECOND FORM's CARD OF 'incipitlaw09.WordsParted'. -/
def wordsPartedUptoCard : Claim7 := { stood := { row := wordsPartedUptoRow, standIns := [], harness := (true, "4a8e75733e31a8f574f869af6517b2954e1ba45c81b6c7dc06ca4bb74ef04e17"), looks := false }, kinds := [], alts := [], laidByText := true, laidKinds := [.data, .data, .pinned], laidTests := true, laidLooks := .later }
def WordsPartedUptoCardSaid : Prop := Claim7.holds Tryd.pinned (.plain (OpenSpec.upto wordsPartedSpec)) wordsPartedUptoCard

/-- THE SECOND FORM's CARD OF 'incipitlaw09.WordsLeft'. -/
def wordsLeftUptoCard : Claim7 := { stood := { row := wordsLeftUptoRow, standIns := [], harness := (true, "4a8e75733e31a8f574f869af6517b2954e1ba45c81b6c7dc06ca4bb74ef04e17"), looks := false }, kinds := [], alts := [], laidByText := true, laidKinds := [.data, .data, .pinned], laidTests := true, laidLooks := .later }
def WordsLeftUptoCardSaid : Prop := Claim7.holds Tryd.pinned (.plain (OpenSpec.upto wordsLeftSpec)) wordsLeftUptoCard

/-- THE SECOND FORM's CARD OF 'incipitlaw09.WordsJoins'. -/
def wordsJoinsUptoCard : Claim7 := { stood := { row := wordsJoinsUptoRow, standIns := [], harness := (true, "4a8e75733e31a8f574f869af6517b2954e1ba45c81b6c7dc06ca4bb74ef04e17"), looks := false }, kinds := [], alts := [], laidByText := true, laidKinds := [.data, .data, .pinned], laidTests := true, laidLooks := .later }
def WordsJoinsUptoCardSaid : Prop := Claim7.holds Tryd.pinned (.plain (OpenSpec.upto wordsJoinsSpec)) wordsJoinsUptoCard
end Rows
end Go.Proofs.YthjfalbchkbdfaaDoor
