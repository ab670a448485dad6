/-
  DERIVED. GIVEN WITH THE SEED: THE CARDS: each row of YtopjhgpgompenaaGreatDoorRows.lean that lists a variable, with what it lists TIED to the program's text (the seventh form; the later family's looks); each row that meets fmt, with fmt's text TOLD by the authors' own Lean function (tested against real Go, not proved from fmt's source: count such statements apart). THE CARD IS WHAT COUNTS. Prove the row's statement (the work); the ties are given (YtopjhgpgompenaaGreatDoorTie.lean); close each card by the builder's one call (the guide's Derived/Test/ToyasCard.lean, 'card_holds'). Laid BY PROGRAM, IN A SANDBOX (cutbox-door.mjs). By AI agents, Wed Nov 11 2026. No macro, syntax, notation, axiom, sorry.
-/
import Derived.Test.YtopjhgpgompenaaGreatDoorRows
import GoSem.ClaimSeven
namespace Go.Proofs.YtopjhgpgompenaaGreatDoor
namespace Rows

/-- THE TIED CARD OF 'bulkheadlaw07.DepotNone'. -/
def depotNoneCard : Claim7 := { stood := { row := depotNoneRow, standIns := [], harness := (true, "933d417d79a607f6d223db5fbcfc983bd8bc9b48eacecfc8ea5cd4b4bf6a9fa4"), looks := true }, kinds := [], alts := [], laidByText := true, laidKinds := [.handle], laidTests := true, laidLooks := .later }
def DepotNoneCardSaid : Prop := Claim7.holds Tryz.pinned (.plain (OpenSpec.ofChange depotNoneSpec)) depotNoneCard

/-- THE TIED CARD OF 'bulkheadlaw07.DepotCounts'. -/
def depotCountsCard : Claim7 := { stood := { row := depotCountsRow, standIns := [], harness := (true, "933d417d79a607f6d223db5fbcfc983bd8bc9b48eacecfc8ea5cd4b4bf6a9fa4"), looks := true }, kinds := [], alts := [], laidByText := true, laidKinds := [.handle], laidTests := true, laidLooks := .later }
def DepotCountsCardSaid : Prop := Claim7.holds Tryz.pinned (.plain (OpenSpec.ofChange depotCountsSpec)) depotCountsCard

/-- THE TIED CARD OF 'bulkheadlaw07.DepotFills'. -/
def depotFillsCard : Claim7 := { stood := { row := depotFillsRow, standIns := [], harness := (true, "933d417d79a607f6d223db5fbcfc983bd8bc9b48eacecfc8ea5cd4b4bf6a9fa4"), looks := true }, kinds := [], alts := [], laidByText := true, laidKinds := [.handle], laidTests := true, laidLooks := .later }
def DepotFillsCardSaid : Prop := Claim7.holds Tryz.pinned (.plain (OpenSpec.ofChange depotFillsSpec)) depotFillsCard

/-- THE TIED CARD OF 'bulkheadlaw07.DepotMoves'. -/
def depotMovesCard : Claim7 := { stood := { row := depotMovesRow, standIns := [], harness := (true, "933d417d79a607f6d223db5fbcfc983bd8bc9b48eacecfc8ea5cd4b4bf6a9fa4"), looks := true }, kinds := [], alts := [], laidByText := true, laidKinds := [.handle], laidTests := true, laidLooks := .later }
def DepotMovesCardSaid : Prop := Claim7.holds Tryz.pinned (.plain (OpenSpec.ofChange depotMovesSpec)) depotMovesCard

/-- THE TIED CARD OF 'bulkheadlaw07.DepotUndone'. -/
def depotUndoneCard : Claim7 := { stood := { row := depotUndoneRow, standIns := [], harness := (true, "933d417d79a607f6d223db5fbcfc983bd8bc9b48eacecfc8ea5cd4b4bf6a9fa4"), looks := true }, kinds := [], alts := [], laidByText := true, laidKinds := [.handle], laidTests := true, laidLooks := .later }
def DepotUndoneCardSaid : Prop := Claim7.holds Tryz.pinned (.plain (OpenSpec.ofChange depotUndoneSpec)) depotUndoneCard

/-- THE TIED CARD OF 'bulkheadlaw07.DepotRuns'. -/
def depotRunsCard : Claim7 := { stood := { row := depotRunsRow, standIns := [], harness := (true, "933d417d79a607f6d223db5fbcfc983bd8bc9b48eacecfc8ea5cd4b4bf6a9fa4"), looks := true }, kinds := [], alts := [], laidByText := true, laidKinds := [.handle], laidTests := true, laidLooks := .later }
def DepotRunsCardSaid : Prop := Claim7.holds Tryz.pinned (.plain (OpenSpec.ofChange depotRunsSpec)) depotRunsCard

/-- THE TIED CARD OF 'bulkheadlaw08.PrintsNone'. -/
def printsNoneCard : Claim7 := { stood := { row := printsNoneRow, standIns := [], harness := (true, "933d417d79a607f6d223db5fbcfc983bd8bc9b48eacecfc8ea5cd4b4bf6a9fa4"), looks := true }, kinds := [], alts := [], laidByText := true, laidKinds := [.handle], laidTests := true, laidLooks := .later }
def PrintsNoneCardSaid : Prop := Claim7.holds Tryz.pinned (.plain (OpenSpec.ofChange printsNoneSpec)) printsNoneCard

/-- THE TIED CARD OF 'bulkheadlaw08.PrintsFills'. -/
def printsFillsCard : Claim7 := { stood := { row := printsFillsRow, standIns := [], harness := (true, "933d417d79a607f6d223db5fbcfc983bd8bc9b48eacecfc8ea5cd4b4bf6a9fa4"), looks := true }, kinds := [], alts := [], laidByText := true, laidKinds := [.handle], laidTests := true, laidLooks := .later }
def PrintsFillsCardSaid : Prop := Claim7.holds Tryz.pinned (.plain (OpenSpec.ofChange printsFillsSpec)) printsFillsCard

/-- THE TIED CARD OF 'bulkheadlaw08.PrintsGoes'. -/
def printsGoesCard : Claim7 := { stood := { row := printsGoesRow, standIns := [], harness := (true, "933d417d79a607f6d223db5fbcfc983bd8bc9b48eacecfc8ea5cd4b4bf6a9fa4"), looks := true }, kinds := [], alts := [], laidByText := true, laidKinds := [.handle], laidTests := true, laidLooks := .later }
def PrintsGoesCardSaid : Prop := Claim7.holds Tryz.pinned (.plain (OpenSpec.ofChange printsGoesSpec)) printsGoesCard

/-- THE TIED CARD OF 'bulkheadlaw08.PrintsRuns'. -/
def printsRunsCard : Claim7 := { stood := { row := printsRunsRow, standIns := [], harness := (true, "933d417d79a607f6d223db5fbcfc983bd8bc9b48eacecfc8ea5cd4b4bf6a9fa4"), looks := true }, kinds := [], alts := [], laidByText := true, laidKinds := [.handle], laidTests := true, laidLooks := .later }
def PrintsRunsCardSaid : Prop := Claim7.holds Tryz.pinned (.plain (OpenSpec.ofChange printsRunsSpec)) printsRunsCard

/-- THE TIED CARD OF 'bulkheadlaw08.PrintsUndone'. -/
def printsUndoneCard : Claim7 := { stood := { row := printsUndoneRow, standIns := [], harness := (true, "933d417d79a607f6d223db5fbcfc983bd8bc9b48eacecfc8ea5cd4b4bf6a9fa4"), looks := true }, kinds := [], alts := [], laidByText := true, laidKinds := [.handle], laidTests := true, laidLooks := .later }
def PrintsUndoneCardSaid : Prop := Claim7.holds Tryz.pinned (.plain (OpenSpec.ofChange printsUndoneSpec)) printsUndoneCard

/-- THE SECOND FORM's CARD OF 'bulkheadlaw07.DepotNone'. -/
def depotNoneUptoCard : Claim7 := { stood := { row := depotNoneUptoRow, standIns := [], harness := (true, "933d417d79a607f6d223db5fbcfc983bd8bc9b48eacecfc8ea5cd4b4bf6a9fa4"), looks := true }, kinds := [], alts := [], laidByText := true, laidKinds := [.handle], laidTests := true, laidLooks := .later }
def DepotNoneUptoCardSaid : Prop := Claim7.holds Tryz.pinned (.plain (OpenSpec.upto depotNoneSpec)) depotNoneUptoCard

/-- THE SECOND FORM's CARD OF 'bulkheadlaw07.DepotCounts'. -/
def depotCountsUptoCard : Claim7 := { stood := { row := depotCountsUptoRow, standIns := [], harness := (true, "933d417d79a607f6d223db5fbcfc983bd8bc9b48eacecfc8ea5cd4b4bf6a9fa4"), looks := true }, kinds := [], alts := [], laidByText := true, laidKinds := [.handle], laidTests := true, laidLooks := .later }
def DepotCountsUptoCardSaid : Prop := Claim7.holds Tryz.pinned (.plain (OpenSpec.upto depotCountsSpec)) depotCountsUptoCard

/-- THE SECOND FORM's CARD OF 'bulkheadlaw07.DepotFills'. -/
def depotFillsUptoCard : Claim7 := { stood := { row := depotFillsUptoRow, standIns := [], harness := (true, "933d417d79a607f6d223db5fbcfc983bd8bc9b48eacecfc8ea5cd4b4bf6a9fa4"), looks := true }, kinds := [], alts := [], laidByText := true, laidKinds := [.handle], laidTests := true, laidLooks := .later }
def DepotFillsUptoCardSaid : Prop := Claim7.holds Tryz.pinned (.plain (OpenSpec.upto depotFillsSpec)) depotFillsUptoCard

/-- THE SECOND FORM's CARD OF 'bulkheadlaw07.DepotMoves'. -/
def depotMovesUptoCard : Claim7 := { stood := { row := depotMovesUptoRow, standIns := [], harness := (true, "933d417d79a607f6d223db5fbcfc983bd8bc9b48eacecfc8ea5cd4b4bf6a9fa4"), looks := true }, kinds := [], alts := [], laidByText := true, laidKinds := [.handle], laidTests := true, laidLooks := .later }
def DepotMovesUptoCardSaid : Prop := Claim7.holds Tryz.pinned (.plain (OpenSpec.upto depotMovesSpec)) depotMovesUptoCard

/-- THE SECOND FORM's CARD OF 'bulkheadlaw07.DepotUndone'. -/
def depotUndoneUptoCard : Claim7 := { stood := { row := depotUndoneUptoRow, standIns := [], harness := (true, "933d417d79a607f6d223db5fbcfc983bd8bc9b48eacecfc8ea5cd4b4bf6a9fa4"), looks := true }, kinds := [], alts := [], laidByText := true, laidKinds := [.handle], laidTests := true, laidLooks := .later }
def DepotUndoneUptoCardSaid : Prop := Claim7.holds Tryz.pinned (.plain (OpenSpec.upto depotUndoneSpec)) depotUndoneUptoCard

/-- THE SECOND FORM's CARD OF 'bulkheadlaw07.DepotRuns'. -/
def depotRunsUptoCard : Claim7 := { stood := { row := depotRunsUptoRow, standIns := [], harness := (true, "933d417d79a607f6d223db5fbcfc983bd8bc9b48eacecfc8ea5cd4b4bf6a9fa4"), looks := true }, kinds := [], alts := [], laidByText := true, laidKinds := [.handle], laidTests := true, laidLooks := .later }
def DepotRunsUptoCardSaid : Prop := Claim7.holds Tryz.pinned (.plain (OpenSpec.upto depotRunsSpec)) depotRunsUptoCard

/-- THE SECOND FORM's CARD OF 'bulkheadlaw08.PrintsNone'. -/
def printsNoneUptoCard : Claim7 := { stood := { row := printsNoneUptoRow, standIns := [], harness := (true, "933d417d79a607f6d223db5fbcfc983bd8bc9b48eacecfc8ea5cd4b4bf6a9fa4"), looks := true }, kinds := [], alts := [], laidByText := true, laidKinds := [.handle], laidTests := true, laidLooks := .later }
def PrintsNoneUptoCardSaid : Prop := Claim7.holds Tryz.pinned (.plain (OpenSpec.upto printsNoneSpec)) printsNoneUptoCard

/-- THE SECOND FORM's CARD OF 'bulkheadlaw08.PrintsFills'. -/
def printsFillsUptoCard : Claim7 := { stood := { row := printsFillsUptoRow, standIns := [], harness := (true, "933d417d79a607f6d223db5fbcfc983bd8bc9b48eacecfc8ea5cd4b4bf6a9fa4"), looks := true }, kinds := [], alts := [], laidByText := true, laidKinds := [.handle], laidTests := true, laidLooks := .later }
def PrintsFillsUptoCardSaid : Prop := Claim7.holds Tryz.pinned (.plain (OpenSpec.upto printsFillsSpec)) printsFillsUptoCard

/-- THE SECOND FORM's CARD OF 'bulkheadlaw08.PrintsGoes'. -/
def printsGoesUptoCard : Claim7 := { stood := { row := printsGoesUptoRow, standIns := [], harness := (true, "933d417d79a607f6d223db5fbcfc983bd8bc9b48eacecfc8ea5cd4b4bf6a9fa4"), looks := true }, kinds := [], alts := [], laidByText := true, laidKinds := [.handle], laidTests := true, laidLooks := .later }
def PrintsGoesUptoCardSaid : Prop := Claim7.holds Tryz.pinned (.plain (OpenSpec.upto printsGoesSpec)) printsGoesUptoCard

/-- THE SECOND FORM's CARD OF 'bulkheadlaw08.PrintsRuns'. -/
def printsRunsUptoCard : Claim7 := { stood := { row := printsRunsUptoRow, standIns := [], harness := (true, "933d417d79a607f6d223db5fbcfc983bd8bc9b48eacecfc8ea5cd4b4bf6a9fa4"), looks := true }, kinds := [], alts := [], laidByText := true, laidKinds := [.handle], laidTests := true, laidLooks := .later }
def PrintsRunsUptoCardSaid : Prop := Claim7.holds Tryz.pinned (.plain (OpenSpec.upto printsRunsSpec)) printsRunsUptoCard

/-- THE SECOND FORM's CARD OF 'bulkheadlaw08.PrintsUndone'. -/
def printsUndoneUptoCard : Claim7 := { stood := { row := printsUndoneUptoRow, standIns := [], harness := (true, "933d417d79a607f6d223db5fbcfc983bd8bc9b48eacecfc8ea5cd4b4bf6a9fa4"), looks := true }, kinds := [], alts := [], laidByText := true, laidKinds := [.handle], laidTests := true, laidLooks := .later }
def PrintsUndoneUptoCardSaid : Prop := Claim7.holds Tryz.pinned (.plain (OpenSpec.upto printsUndoneSpec)) printsUndoneUptoCard
end Rows
end Go.Proofs.YtopjhgpgompenaaGreatDoor
