/-
  DERIVED. GIVEN WITH THE SEED: THE CARDS: each row of YtjkkbceddbkejaaGreatDoorRows.lean that lists a variable, with what it lists TIED to the program's text (the seventh form; the later family's looks); each row that meets fmt, with fmt's text TOLD by the authors' own Lean function (tested against real Go, not proved from fmt's source: count such statements apart). THE CARD IS WHAT COUNTS. Prove the row's statement (the work); the ties are given (YtjkkbceddbkejaaGreatDoorTie.lean); close each card by the builder's one call (the guide's Derived/Test/ToyasCard.lean, 'card_holds'). Laid BY PROGRAM, IN A SANDBOX (cutbox-door.mjs). By AI agents, Wed Nov 11 2026. No macro, syntax, notation, axiom, sorry.
-/
import Derived.Test.YtjkkbceddbkejaaGreatDoorRows
import GoSem.ClaimSeven
namespace Go.Proofs.YtjkkbceddbkejaaGreatDoor
namespace Rows

/-- THE TIED CARD OF 'bulkheadlaw07.DepotMoves'. -/
def depotMovesCard : Claim7 := { stood := { row := depotMovesRow, standIns := [], harness := (true, "aa891138d9f2dbffba0d66823ea96585d065e7b7b6289da0d54404e25474e318"), looks := true }, kinds := [], alts := [], laidByText := true, laidKinds := [.handle], laidTests := true, laidLooks := .later }
def DepotMovesCardSaid : Prop := Claim7.holds Tryz.pinned (.plain (OpenSpec.ofChange depotMovesSpec)) depotMovesCard

/-- THE TIED CARD OF 'bulkheadlaw08.PrintsUndone'. -/
def printsUndoneCard : Claim7 := { stood := { row := printsUndoneRow, standIns := [], harness := (true, "aa891138d9f2dbffba0d66823ea96585d065e7b7b6289da0d54404e25474e318"), looks := true }, kinds := [], alts := [], laidByText := true, laidKinds := [.handle], laidTests := true, laidLooks := .later }
def PrintsUndoneCardSaid : Prop := Claim7.holds Tryz.pinned (.plain (OpenSpec.ofChange printsUndoneSpec)) printsUndoneCard

/-- THE TIED CARD OF 'bulkheadlaw07.DepotUndone'. -/
def depotUndoneCard : Claim7 := { stood := { row := depotUndoneRow, standIns := [], harness := (true, "aa891138d9f2dbffba0d66823ea96585d065e7b7b6289da0d54404e25474e318"), looks := true }, kinds := [], alts := [], laidByText := true, laidKinds := [.handle], laidTests := true, laidLooks := .later }
def DepotUndoneCardSaid : Prop := Claim7.holds Tryz.pinned (.plain (OpenSpec.ofChange depotUndoneSpec)) depotUndoneCard

/-- THE TIED CARD OF 'bulkheadlaw08.PrintsRuns'. -/
def printsRunsCard : Claim7 := { stood := { row := printsRunsRow, standIns := [], harness := (true, "aa891138d9f2dbffba0d66823ea96585d065e7b7b6289da0d54404e25474e318"), looks := true }, kinds := [], alts := [], laidByText := true, laidKinds := [.handle], laidTests := true, laidLooks := .later }
def PrintsRunsCardSaid : Prop := Claim7.holds Tryz.pinned (.plain (OpenSpec.ofChange printsRunsSpec)) printsRunsCard

/-- THE TIED CARD OF 'bulkheadlaw07.DepotRuns'. -/
def depotRunsCard : Claim7 := { stood := { row := depotRunsRow, standIns := [], harness := (true, "aa891138d9f2dbffba0d66823ea96585d065e7b7b6289da0d54404e25474e318"), looks := true }, kinds := [], alts := [], laidByText := true, laidKinds := [.handle], laidTests := true, laidLooks := .later }
def DepotRunsCardSaid : Prop := Claim7.holds Tryz.pinned (.plain (OpenSpec.ofChange depotRunsSpec)) depotRunsCard

/-- THE SECOND FORM's CARD OF 'bulkheadlaw07.DepotMoves'. -/
def depotMovesUptoCard : Claim7 := { stood := { row := depotMovesUptoRow, standIns := [], harness := (true, "aa891138d9f2dbffba0d66823ea96585d065e7b7b6289da0d54404e25474e318"), looks := true }, kinds := [], alts := [], laidByText := true, laidKinds := [.handle], laidTests := true, laidLooks := .later }
def DepotMovesUptoCardSaid : Prop := Claim7.holds Tryz.pinned (.plain (OpenSpec.upto depotMovesSpec)) depotMovesUptoCard

/-- THE SECOND FORM's CARD OF 'bulkheadlaw08.PrintsUndone'. -/
def printsUndoneUptoCard : Claim7 := { stood := { row := printsUndoneUptoRow, standIns := [], harness := (true, "aa891138d9f2dbffba0d66823ea96585d065e7b7b6289da0d54404e25474e318"), looks := true }, kinds := [], alts := [], laidByText := true, laidKinds := [.handle], laidTests := true, laidLooks := .later }
def PrintsUndoneUptoCardSaid : Prop := Claim7.holds Tryz.pinned (.plain (OpenSpec.upto printsUndoneSpec)) printsUndoneUptoCard

/-- THE SECOND FORM's CARD OF 'bulkheadlaw07.DepotUndone'. -/
def depotUndoneUptoCard : Claim7 := { stood := { row := depotUndoneUptoRow, standIns := [], harness := (true, "aa891138d9f2dbffba0d66823ea96585d065e7b7b6289da0d54404e25474e318"), looks := true }, kinds := [], alts := [], laidByText := true, laidKinds := [.handle], laidTests := true, laidLooks := .later }
def DepotUndoneUptoCardSaid : Prop := Claim7.holds Tryz.pinned (.plain (OpenSpec.upto depotUndoneSpec)) depotUndoneUptoCard

/-- THE SECOND FORM's CARD OF 'bulkheadlaw08.PrintsRuns'. -/
def printsRunsUptoCard : Claim7 := { stood := { row := printsRunsUptoRow, standIns := [], harness := (true, "aa891138d9f2dbffba0d66823ea96585d065e7b7b6289da0d54404e25474e318"), looks := true }, kinds := [], alts := [], laidByText := true, laidKinds := [.handle], laidTests := true, laidLooks := .later }
def PrintsRunsUptoCardSaid : Prop := Claim7.holds Tryz.pinned (.plain (OpenSpec.upto printsRunsSpec)) printsRunsUptoCard

/-- THE SECOND FORM's CARD OF 'bulkheadlaw07.DepotRuns'. -/
def depotRunsUptoCard : Claim7 := { stood := { row := depotRunsUptoRow, standIns := [], harness := (true, "aa891138d9f2dbffba0d66823ea96585d065e7b7b6289da0d54404e25474e318"), looks := true }, kinds := [], alts := [], laidByText := true, laidKinds := [.handle], laidTests := true, laidLooks := .later }
def DepotRunsUptoCardSaid : Prop := Claim7.holds Tryz.pinned (.plain (OpenSpec.upto depotRunsSpec)) depotRunsUptoCard
end Rows
end Go.Proofs.YtjkkbceddbkejaaGreatDoor
