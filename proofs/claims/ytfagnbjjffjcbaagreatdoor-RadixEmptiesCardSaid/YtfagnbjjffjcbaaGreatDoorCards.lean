/-
  DERIVED. GIVEN WITH THE SEED: THE CARDS: each row of YtfagnbjjffjcbaaGreatDoorRows.lean that lists a variable, with what it lists TIED to the program's text (the seventh form; the later family's looks); each row that meets fmt, with fmt's text TOLD by the authors' own Lean function (tested against real Go, not proved from fmt's source: count such statements apart). THE CARD IS WHAT COUNTS. Prove the row's statement (the work); the ties are given (YtfagnbjjffjcbaaGreatDoorTie.lean); close each card by the builder's one call (the guide's Derived/Test/ToyasCard.lean, 'card_holds'). Laid BY PROGRAM, IN A SANDBOX (cutbox-door.mjs). By AI agents, Wed Nov 11 2026. No macro, syntax, notation, axiom, sorry.
-/
import Derived.Test.YtfagnbjjffjcbaaGreatDoorRows
import GoSem.ClaimSeven
namespace Go.Proofs.YtfagnbjjffjcbaaGreatDoor
namespace Rows

/-- THE TIED CARD OF 'bulkheadlaw09.RadixRuns'. -/
def radixRunsCard : Claim7 := { stood := { row := radixRunsRow, standIns := [], harness := (true, "4fe478b63300dd14629fe7e963d7db9e136e05bf90c90470b27325a0970c9d8b"), looks := true }, kinds := [], alts := [], laidByText := true, laidKinds := [.handle], laidTests := true, laidLooks := .later }
def RadixRunsCardSaid : Prop := Claim7.holds Tryz.pinned (.plain (OpenSpec.ofChange radixRunsSpec)) radixRunsCard

/-- THE TIED CARD OF 'bulkheadlaw09.RadixEmpties'. -/
def radixEmptiesCard : Claim7 := { stood := { row := radixEmptiesRow, standIns := [], harness := (true, "4fe478b63300dd14629fe7e963d7db9e136e05bf90c90470b27325a0970c9d8b"), looks := true }, kinds := [], alts := [], laidByText := true, laidKinds := [.handle], laidTests := true, laidLooks := .later }
def RadixEmptiesCardSaid : Prop := Claim7.holds Tryz.pinned (.plain (OpenSpec.ofChange radixEmptiesSpec)) radixEmptiesCard

/-- THE TIED CARD OF 'bulkheadlaw09.RadixApart'. -/
def radixApartCard : Claim7 := { stood := { row := radixApartRow, standIns := [], harness := (true, "4fe478b63300dd14629fe7e963d7db9e136e05bf90c90470b27325a0970c9d8b"), looks := true }, kinds := [], alts := [], laidByText := true, laidKinds := [.handle], laidTests := true, laidLooks := .later }
def RadixApartCardSaid : Prop := Claim7.holds Tryz.pinned (.plain (OpenSpec.ofChange radixApartSpec)) radixApartCard

/-- THE TIED CARD OF 'bulkheadlaw09.RadixUndone'. -/
def radixUndoneCard : Claim7 := { stood := { row := radixUndoneRow, standIns := [], harness := (true, "4fe478b63300dd14629fe7e963d7db9e136e05bf90c90470b27325a0970c9d8b"), looks := true }, kinds := [], alts := [], laidByText := true, laidKinds := [.handle], laidTests := true, laidLooks := .later }
def RadixUndoneCardSaid : Prop := Claim7.holds Tryz.pinned (.plain (OpenSpec.ofChange radixUndoneSpec)) radixUndoneCard

/-- THE TIED CARD OF 'bulkheadlaw09.RadixNone'. -/
def radixNoneCard : Claim7 := { stood := { row := radixNoneRow, standIns := [], harness := (true, "4fe478b63300dd14629fe7e963d7db9e136e05bf90c90470b27325a0970c9d8b"), looks := true }, kinds := [], alts := [], laidByText := true, laidKinds := [.handle], laidTests := true, laidLooks := .later }
def RadixNoneCardSaid : Prop := Claim7.holds Tryz.pinned (.plain (OpenSpec.ofChange radixNoneSpec)) radixNoneCard

/-- THE TIED CARD OF 'bulkheadlaw09.RadixFull'. -/
def radixFullCard : Claim7 := { stood := { row := radixFullRow, standIns := [], harness := (true, "4fe478b63300dd14629fe7e963d7db9e136e05bf90c90470b27325a0970c9d8b"), looks := true }, kinds := [], alts := [], laidByText := true, laidKinds := [.handle], laidTests := true, laidLooks := .later }
def RadixFullCardSaid : Prop := Claim7.holds Tryz.pinned (.plain (OpenSpec.ofChange radixFullSpec)) radixFullCard

/-- THE TIED CARD OF 'bulkheadlaw07.DepotCounts'. -/
def depotCountsCard : Claim7 := { stood := { row := depotCountsRow, standIns := [], harness := (true, "4fe478b63300dd14629fe7e963d7db9e136e05bf90c90470b27325a0970c9d8b"), looks := true }, kinds := [], alts := [], laidByText := true, laidKinds := [.handle], laidTests := true, laidLooks := .later }
def DepotCountsCardSaid : Prop := Claim7.holds Tryz.pinned (.plain (OpenSpec.ofChange depotCountsSpec)) depotCountsCard

/-- THE TIED CARD OF 'bulkheadlaw07.DepotFills'. -/
def depotFillsCard : Claim7 := { stood := { row := depotFillsRow, standIns := [], harness := (true, "4fe478b63300dd14629fe7e963d7db9e136e05bf90c90470b27325a0970c9d8b"), looks := true }, kinds := [], alts := [], laidByText := true, laidKinds := [.handle], laidTests := true, laidLooks := .later }
def DepotFillsCardSaid : Prop := Claim7.holds Tryz.pinned (.plain (OpenSpec.ofChange depotFillsSpec)) depotFillsCard

/-- THE TIED CARD OF 'bulkheadlaw07.DepotNone'. -/
def depotNoneCard : Claim7 := { stood := { row := depotNoneRow, standIns := [], harness := (true, "4fe478b63300dd14629fe7e963d7db9e136e05bf90c90470b27325a0970c9d8b"), looks := true }, kinds := [], alts := [], laidByText := true, laidKinds := [.handle], laidTests := true, laidLooks := .later }
def DepotNoneCardSaid : Prop := Claim7.holds Tryz.pinned (.plain (OpenSpec.ofChange depotNoneSpec)) depotNoneCard

/-- THE TIED CARD OF 'bulkheadlaw07.DepotMoves'. -/
def depotMovesCard : Claim7 := { stood := { row := depotMovesRow, standIns := [], harness := (true, "4fe478b63300dd14629fe7e963d7db9e136e05bf90c90470b27325a0970c9d8b"), looks := true }, kinds := [], alts := [], laidByText := true, laidKinds := [.handle], laidTests := true, laidLooks := .later }
def DepotMovesCardSaid : Prop := Claim7.holds Tryz.pinned (.plain (OpenSpec.ofChange depotMovesSpec)) depotMovesCard

/-- THE SECOND FORM's CARD OF 'bulkheadlaw09.RadixRuns'. -/
def radixRunsUptoCard : Claim7 := { stood := { row := radixRunsUptoRow, standIns := [], harness := (true, "4fe478b63300dd14629fe7e963d7db9e136e05bf90c90470b27325a0970c9d8b"), looks := true }, kinds := [], alts := [], laidByText := true, laidKinds := [.handle], laidTests := true, laidLooks := .later }
def RadixRunsUptoCardSaid : Prop := Claim7.holds Tryz.pinned (.plain (OpenSpec.upto radixRunsSpec)) radixRunsUptoCard

/-- THE SECOND FORM's CARD OF 'bulkheadlaw09.RadixEmpties'. -/
def radixEmptiesUptoCard : Claim7 := { stood := { row := radixEmptiesUptoRow, standIns := [], harness := (true, "4fe478b63300dd14629fe7e963d7db9e136e05bf90c90470b27325a0970c9d8b"), looks := true }, kinds := [], alts := [], laidByText := true, laidKinds := [.handle], laidTests := true, laidLooks := .later }
def RadixEmptiesUptoCardSaid : Prop := Claim7.holds Tryz.pinned (.plain (OpenSpec.upto radixEmptiesSpec)) radixEmptiesUptoCard

/-- THE SECOND FORM's CARD OF 'bulkheadlaw09.RadixApart'. -/
def radixApartUptoCard : Claim7 := { stood := { row := radixApartUptoRow, standIns := [], harness := (true, "4fe478b63300dd14629fe7e963d7db9e136e05bf90c90470b27325a0970c9d8b"), looks := true }, kinds := [], alts := [], laidByText := true, laidKinds := [.handle], laidTests := true, laidLooks := .later }
def RadixApartUptoCardSaid : Prop := Claim7.holds Tryz.pinned (.plain (OpenSpec.upto radixApartSpec)) radixApartUptoCard

/-- THE SECOND FORM's CARD OF 'bulkheadlaw09.RadixUndone'. -/
def radixUndoneUptoCard : Claim7 := { stood := { row := radixUndoneUptoRow, standIns := [], harness := (true, "4fe478b63300dd14629fe7e963d7db9e136e05bf90c90470b27325a0970c9d8b"), looks := true }, kinds := [], alts := [], laidByText := true, laidKinds := [.handle], laidTests := true, laidLooks := .later }
def RadixUndoneUptoCardSaid : Prop := Claim7.holds Tryz.pinned (.plain (OpenSpec.upto radixUndoneSpec)) radixUndoneUptoCard

/-- THE SECOND FORM's CARD OF 'bulkheadlaw09.RadixNone'. -/
def radixNoneUptoCard : Claim7 := { stood := { row := radixNoneUptoRow, standIns := [], harness := (true, "4fe478b63300dd14629fe7e963d7db9e136e05bf90c90470b27325a0970c9d8b"), looks := true }, kinds := [], alts := [], laidByText := true, laidKinds := [.handle], laidTests := true, laidLooks := .later }
def RadixNoneUptoCardSaid : Prop := Claim7.holds Tryz.pinned (.plain (OpenSpec.upto radixNoneSpec)) radixNoneUptoCard

/-- THE SECOND FORM's CARD OF 'bulkheadlaw09.RadixFull'. -/
def radixFullUptoCard : Claim7 := { stood := { row := radixFullUptoRow, standIns := [], harness := (true, "4fe478b63300dd14629fe7e963d7db9e136e05bf90c90470b27325a0970c9d8b"), looks := true }, kinds := [], alts := [], laidByText := true, laidKinds := [.handle], laidTests := true, laidLooks := .later }
def RadixFullUptoCardSaid : Prop := Claim7.holds Tryz.pinned (.plain (OpenSpec.upto radixFullSpec)) radixFullUptoCard

/-- THE SECOND FORM's CARD OF 'bulkheadlaw07.DepotCounts'. -/
def depotCountsUptoCard : Claim7 := { stood := { row := depotCountsUptoRow, standIns := [], harness := (true, "4fe478b63300dd14629fe7e963d7db9e136e05bf90c90470b27325a0970c9d8b"), looks := true }, kinds := [], alts := [], laidByText := true, laidKinds := [.handle], laidTests := true, laidLooks := .later }
def DepotCountsUptoCardSaid : Prop := Claim7.holds Tryz.pinned (.plain (OpenSpec.upto depotCountsSpec)) depotCountsUptoCard

/-- THE SECOND FORM's CARD OF 'bulkheadlaw07.DepotFills'. -/
def depotFillsUptoCard : Claim7 := { stood := { row := depotFillsUptoRow, standIns := [], harness := (true, "4fe478b63300dd14629fe7e963d7db9e136e05bf90c90470b27325a0970c9d8b"), looks := true }, kinds := [], alts := [], laidByText := true, laidKinds := [.handle], laidTests := true, laidLooks := .later }
def DepotFillsUptoCardSaid : Prop := Claim7.holds Tryz.pinned (.plain (OpenSpec.upto depotFillsSpec)) depotFillsUptoCard

/-- THE SECOND FORM's CARD OF 'bulkheadlaw07.DepotNone'. -/
def depotNoneUptoCard : Claim7 := { stood := { row := depotNoneUptoRow, standIns := [], harness := (true, "4fe478b63300dd14629fe7e963d7db9e136e05bf90c90470b27325a0970c9d8b"), looks := true }, kinds := [], alts := [], laidByText := true, laidKinds := [.handle], laidTests := true, laidLooks := .later }
def DepotNoneUptoCardSaid : Prop := Claim7.holds Tryz.pinned (.plain (OpenSpec.upto depotNoneSpec)) depotNoneUptoCard

/-- THE SECOND FORM's CARD OF 'bulkheadlaw07.DepotMoves'. -/
def depotMovesUptoCard : Claim7 := { stood := { row := depotMovesUptoRow, standIns := [], harness := (true, "4fe478b63300dd14629fe7e963d7db9e136e05bf90c90470b27325a0970c9d8b"), looks := true }, kinds := [], alts := [], laidByText := true, laidKinds := [.handle], laidTests := true, laidLooks := .later }
def DepotMovesUptoCardSaid : Prop := Claim7.holds Tryz.pinned (.plain (OpenSpec.upto depotMovesSpec)) depotMovesUptoCard
end Rows
end Go.Proofs.YtfagnbjjffjcbaaGreatDoor
