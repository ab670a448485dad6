/-
  DERIVED. GIVEN WITH THE SEED: THE CARDS: each row of YticdanndfogjfaaGreatDoorRows.lean that lists a variable, with what it lists TIED to the program's text (the seventh form; the later family's looks); each row that meets fmt, with fmt's text TOLD by the authors' own Lean function (tested against real Go, not proved from fmt's source: count such statements apart). THE CARD IS WHAT COUNTS. Prove the row's statement (the work); the ties are given (YticdanndfogjfaaGreatDoorTie.lean); close each card by the builder's one call (the guide's Derived/Test/ToyasCard.lean, 'card_holds'). Laid BY PROGRAM, IN A SANDBOX (cutbox-door.mjs). By AI agents, Wed Nov 11 2026. No macro, syntax, notation, axiom, sorry.
-/
import Derived.Test.YticdanndfogjfaaGreatDoorRows
import GoSem.ClaimSeven
namespace Go.Proofs.YticdanndfogjfaaGreatDoor
namespace Rows

/-- THE TIED CARD OF 'bulkheadlaw06.PagesUndone'. -/
def pagesUndoneCard : Claim7 := { stood := { row := pagesUndoneRow, standIns := [], harness := (true, "2c771ff8a035a4028c3dc729ea8707ac5ebb937548f913ef1b32f9b08409ea1f"), looks := true }, kinds := [], alts := [], laidByText := true, laidKinds := [.handle], laidTests := true, laidLooks := .later }
def PagesUndoneCardSaid : Prop := Claim7.holds Tryz.pinned (.plain (OpenSpec.ofChange pagesUndoneSpec)) pagesUndoneCard

/-- THE TIED CARD OF 'bulkheadlaw06.PagesNone'. -/
def pagesNoneCard : Claim7 := { stood := { row := pagesNoneRow, standIns := [], harness := (true, "2c771ff8a035a4028c3dc729ea8707ac5ebb937548f913ef1b32f9b08409ea1f"), looks := true }, kinds := [], alts := [], laidByText := true, laidKinds := [.handle], laidTests := true, laidLooks := .later }
def PagesNoneCardSaid : Prop := Claim7.holds Tryz.pinned (.plain (OpenSpec.ofChange pagesNoneSpec)) pagesNoneCard

/-- THE TIED CARD OF 'bulkheadlaw06.PagesMany'. -/
def pagesManyCard : Claim7 := { stood := { row := pagesManyRow, standIns := [], harness := (true, "2c771ff8a035a4028c3dc729ea8707ac5ebb937548f913ef1b32f9b08409ea1f"), looks := true }, kinds := [], alts := [], laidByText := true, laidKinds := [.handle], laidTests := true, laidLooks := .later }
def PagesManyCardSaid : Prop := Claim7.holds Tryz.pinned (.plain (OpenSpec.ofChange pagesManySpec)) pagesManyCard

/-- THE TIED CARD OF 'bulkheadlaw07.DepotCounts'. -/
def depotCountsCard : Claim7 := { stood := { row := depotCountsRow, standIns := [], harness := (true, "2c771ff8a035a4028c3dc729ea8707ac5ebb937548f913ef1b32f9b08409ea1f"), looks := true }, kinds := [], alts := [], laidByText := true, laidKinds := [.handle], laidTests := true, laidLooks := .later }
def DepotCountsCardSaid : Prop := Claim7.holds Tryz.pinned (.plain (OpenSpec.ofChange depotCountsSpec)) depotCountsCard

/-- THE TIED CARD OF 'bulkheadlaw07.DepotFills'. -/
def depotFillsCard : Claim7 := { stood := { row := depotFillsRow, standIns := [], harness := (true, "2c771ff8a035a4028c3dc729ea8707ac5ebb937548f913ef1b32f9b08409ea1f"), looks := true }, kinds := [], alts := [], laidByText := true, laidKinds := [.handle], laidTests := true, laidLooks := .later }
def DepotFillsCardSaid : Prop := Claim7.holds Tryz.pinned (.plain (OpenSpec.ofChange depotFillsSpec)) depotFillsCard

/-- THE TIED CARD OF 'bulkheadlaw07.DepotNone'. -/
def depotNoneCard : Claim7 := { stood := { row := depotNoneRow, standIns := [], harness := (true, "2c771ff8a035a4028c3dc729ea8707ac5ebb937548f913ef1b32f9b08409ea1f"), looks := true }, kinds := [], alts := [], laidByText := true, laidKinds := [.handle], laidTests := true, laidLooks := .later }
def DepotNoneCardSaid : Prop := Claim7.holds Tryz.pinned (.plain (OpenSpec.ofChange depotNoneSpec)) depotNoneCard

/-- THE TIED CARD OF 'bulkheadlaw07.DepotMoves'. -/
def depotMovesCard : Claim7 := { stood := { row := depotMovesRow, standIns := [], harness := (true, "2c771ff8a035a4028c3dc729ea8707ac5ebb937548f913ef1b32f9b08409ea1f"), looks := true }, kinds := [], alts := [], laidByText := true, laidKinds := [.handle], laidTests := true, laidLooks := .later }
def DepotMovesCardSaid : Prop := Claim7.holds Tryz.pinned (.plain (OpenSpec.ofChange depotMovesSpec)) depotMovesCard

/-- THE TIED CARD OF 'bulkheadlaw08.PrintsRuns'. -/
def printsRunsCard : Claim7 := { stood := { row := printsRunsRow, standIns := [], harness := (true, "2c771ff8a035a4028c3dc729ea8707ac5ebb937548f913ef1b32f9b08409ea1f"), looks := true }, kinds := [], alts := [], laidByText := true, laidKinds := [.handle], laidTests := true, laidLooks := .later }
def PrintsRunsCardSaid : Prop := Claim7.holds Tryz.pinned (.plain (OpenSpec.ofChange printsRunsSpec)) printsRunsCard

/-- THE TIED CARD OF 'bulkheadlaw08.PrintsFills'. -/
def printsFillsCard : Claim7 := { stood := { row := printsFillsRow, standIns := [], harness := (true, "2c771ff8a035a4028c3dc729ea8707ac5ebb937548f913ef1b32f9b08409ea1f"), looks := true }, kinds := [], alts := [], laidByText := true, laidKinds := [.handle], laidTests := true, laidLooks := .later }
def PrintsFillsCardSaid : Prop := Claim7.holds Tryz.pinned (.plain (OpenSpec.ofChange printsFillsSpec)) printsFillsCard

/-- THE TIED CARD OF 'bulkheadlaw08.PrintsUndone'. -/
def printsUndoneCard : Claim7 := { stood := { row := printsUndoneRow, standIns := [], harness := (true, "2c771ff8a035a4028c3dc729ea8707ac5ebb937548f913ef1b32f9b08409ea1f"), looks := true }, kinds := [], alts := [], laidByText := true, laidKinds := [.handle], laidTests := true, laidLooks := .later }
def PrintsUndoneCardSaid : Prop := Claim7.holds Tryz.pinned (.plain (OpenSpec.ofChange printsUndoneSpec)) printsUndoneCard

/-- THE TIED CARD OF 'bulkheadlaw08.PrintsNone'. -/
def printsNoneCard : Claim7 := { stood := { row := printsNoneRow, standIns := [], harness := (true, "2c771ff8a035a4028c3dc729ea8707ac5ebb937548f913ef1b32f9b08409ea1f"), looks := true }, kinds := [], alts := [], laidByText := true, laidKinds := [.handle], laidTests := true, laidLooks := .later }
def PrintsNoneCardSaid : Prop := Claim7.holds Tryz.pinned (.plain (OpenSpec.ofChange printsNoneSpec)) printsNoneCard

/-- THE TIED CARD OF 'bulkheadlaw08.PrintsGoes'. -/
def printsGoesCard : Claim7 := { stood := { row := printsGoesRow, standIns := [], harness := (true, "2c771ff8a035a4028c3dc729ea8707ac5ebb937548f913ef1b32f9b08409ea1f"), looks := true }, kinds := [], alts := [], laidByText := true, laidKinds := [.handle], laidTests := true, laidLooks := .later }
def PrintsGoesCardSaid : Prop := Claim7.holds Tryz.pinned (.plain (OpenSpec.ofChange printsGoesSpec)) printsGoesCard

/-- THE SECOND FORM's CARD OF 'bulkheadlaw06.PagesUndone'. -/
def pagesUndoneUptoCard : Claim7 := { stood := { row := pagesUndoneUptoRow, standIns := [], harness := (true, "2c771ff8a035a4028c3dc729ea8707ac5ebb937548f913ef1b32f9b08409ea1f"), looks := true }, kinds := [], alts := [], laidByText := true, laidKinds := [.handle], laidTests := true, laidLooks := .later }
def PagesUndoneUptoCardSaid : Prop := Claim7.holds Tryz.pinned (.plain (OpenSpec.upto pagesUndoneSpec)) pagesUndoneUptoCard

/-- THE SECOND FORM's CARD OF 'bulkheadlaw06.PagesNone'. -/
def pagesNoneUptoCard : Claim7 := { stood := { row := pagesNoneUptoRow, standIns := [], harness := (true, "2c771ff8a035a4028c3dc729ea8707ac5ebb937548f913ef1b32f9b08409ea1f"), looks := true }, kinds := [], alts := [], laidByText := true, laidKinds := [.handle], laidTests := true, laidLooks := .later }
def PagesNoneUptoCardSaid : Prop := Claim7.holds Tryz.pinned (.plain (OpenSpec.upto pagesNoneSpec)) pagesNoneUptoCard

/-- THE SECOND FORM's CARD OF 'bulkheadlaw06.PagesMany'. -/
def pagesManyUptoCard : Claim7 := { stood := { row := pagesManyUptoRow, standIns := [], harness := (true, "2c771ff8a035a4028c3dc729ea8707ac5ebb937548f913ef1b32f9b08409ea1f"), looks := true }, kinds := [], alts := [], laidByText := true, laidKinds := [.handle], laidTests := true, laidLooks := .later }
def PagesManyUptoCardSaid : Prop := Claim7.holds Tryz.pinned (.plain (OpenSpec.upto pagesManySpec)) pagesManyUptoCard

/-- THE SECOND FORM's CARD OF 'bulkheadlaw07.DepotCounts'. -/
def depotCountsUptoCard : Claim7 := { stood := { row := depotCountsUptoRow, standIns := [], harness := (true, "2c771ff8a035a4028c3dc729ea8707ac5ebb937548f913ef1b32f9b08409ea1f"), looks := true }, kinds := [], alts := [], laidByText := true, laidKinds := [.handle], laidTests := true, laidLooks := .later }
def DepotCountsUptoCardSaid : Prop := Claim7.holds Tryz.pinned (.plain (OpenSpec.upto depotCountsSpec)) depotCountsUptoCard

/-- THE SECOND FORM's CARD OF 'bulkheadlaw07.DepotFills'. -/
def depotFillsUptoCard : Claim7 := { stood := { row := depotFillsUptoRow, standIns := [], harness := (true, "2c771ff8a035a4028c3dc729ea8707ac5ebb937548f913ef1b32f9b08409ea1f"), looks := true }, kinds := [], alts := [], laidByText := true, laidKinds := [.handle], laidTests := true, laidLooks := .later }
def DepotFillsUptoCardSaid : Prop := Claim7.holds Tryz.pinned (.plain (OpenSpec.upto depotFillsSpec)) depotFillsUptoCard

/-- THE SECOND FORM's CARD OF 'bulkheadlaw07.DepotNone'. -/
def depotNoneUptoCard : Claim7 := { stood := { row := depotNoneUptoRow, standIns := [], harness := (true, "2c771ff8a035a4028c3dc729ea8707ac5ebb937548f913ef1b32f9b08409ea1f"), looks := true }, kinds := [], alts := [], laidByText := true, laidKinds := [.handle], laidTests := true, laidLooks := .later }
def DepotNoneUptoCardSaid : Prop := Claim7.holds Tryz.pinned (.plain (OpenSpec.upto depotNoneSpec)) depotNoneUptoCard

/-- THE SECOND FORM's CARD OF 'bulkheadlaw07.DepotMoves'. -/
def depotMovesUptoCard : Claim7 := { stood := { row := depotMovesUptoRow, standIns := [], harness := (true, "2c771ff8a035a4028c3dc729ea8707ac5ebb937548f913ef1b32f9b08409ea1f"), looks := true }, kinds := [], alts := [], laidByText := true, laidKinds := [.handle], laidTests := true, laidLooks := .later }
def DepotMovesUptoCardSaid : Prop := Claim7.holds Tryz.pinned (.plain (OpenSpec.upto depotMovesSpec)) depotMovesUptoCard

/-- THE SECOND FORM's CARD OF 'bulkheadlaw08.PrintsRuns'. -/
def printsRunsUptoCard : Claim7 := { stood := { row := printsRunsUptoRow, standIns := [], harness := (true, "2c771ff8a035a4028c3dc729ea8707ac5ebb937548f913ef1b32f9b08409ea1f"), looks := true }, kinds := [], alts := [], laidByText := true, laidKinds := [.handle], laidTests := true, laidLooks := .later }
def PrintsRunsUptoCardSaid : Prop := Claim7.holds Tryz.pinned (.plain (OpenSpec.upto printsRunsSpec)) printsRunsUptoCard

/-- THE SECOND FORM's CARD OF 'bulkheadlaw08.PrintsFills'. -/
def printsFillsUptoCard : Claim7 := { stood := { row := printsFillsUptoRow, standIns := [], harness := (true, "2c771ff8a035a4028c3dc729ea8707ac5ebb937548f913ef1b32f9b08409ea1f"), looks := true }, kinds := [], alts := [], laidByText := true, laidKinds := [.handle], laidTests := true, laidLooks := .later }
def PrintsFillsUptoCardSaid : Prop := Claim7.holds Tryz.pinned (.plain (OpenSpec.upto printsFillsSpec)) printsFillsUptoCard

/-- THE SECOND FORM's CARD OF 'bulkheadlaw08.PrintsUndone'. -/
def printsUndoneUptoCard : Claim7 := { stood := { row := printsUndoneUptoRow, standIns := [], harness := (true, "2c771ff8a035a4028c3dc729ea8707ac5ebb937548f913ef1b32f9b08409ea1f"), looks := true }, kinds := [], alts := [], laidByText := true, laidKinds := [.handle], laidTests := true, laidLooks := .later }
def PrintsUndoneUptoCardSaid : Prop := Claim7.holds Tryz.pinned (.plain (OpenSpec.upto printsUndoneSpec)) printsUndoneUptoCard

/-- THE SECOND FORM's CARD OF 'bulkheadlaw08.PrintsNone'. -/
def printsNoneUptoCard : Claim7 := { stood := { row := printsNoneUptoRow, standIns := [], harness := (true, "2c771ff8a035a4028c3dc729ea8707ac5ebb937548f913ef1b32f9b08409ea1f"), looks := true }, kinds := [], alts := [], laidByText := true, laidKinds := [.handle], laidTests := true, laidLooks := .later }
def PrintsNoneUptoCardSaid : Prop := Claim7.holds Tryz.pinned (.plain (OpenSpec.upto printsNoneSpec)) printsNoneUptoCard

/-- THE SECOND FORM's CARD OF 'bulkheadlaw08.PrintsGoes'. -/
def printsGoesUptoCard : Claim7 := { stood := { row := printsGoesUptoRow, standIns := [], harness := (true, "2c771ff8a035a4028c3dc729ea8707ac5ebb937548f913ef1b32f9b08409ea1f"), looks := true }, kinds := [], alts := [], laidByText := true, laidKinds := [.handle], laidTests := true, laidLooks := .later }
def PrintsGoesUptoCardSaid : Prop := Claim7.holds Tryz.pinned (.plain (OpenSpec.upto printsGoesSpec)) printsGoesUptoCard
end Rows
end Go.Proofs.YticdanndfogjfaaGreatDoor
