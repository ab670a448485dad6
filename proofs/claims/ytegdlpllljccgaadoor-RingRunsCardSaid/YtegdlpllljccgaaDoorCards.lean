/-
  DERIVED. GIVEN WITH THE SEED: THE CARDS: each row of YtegdlpllljccgaaDoorRows.lean that lists a variable, with what it lists TIED to the program's text (the seventh form; the later family's looks); each row that meets fmt, with fmt's text TOLD by the authors' own Lean function (tested against real Go, not proved from fmt's source: count such statements apart). THE CARD IS WHAT COUNTS. Prove the row's statement (the work); the ties are given (YtegdlpllljccgaaDoorTie.lean); close each card by the builder's one call (the guide's Derived/Test/ToyasCard.lean, 'card_holds'). Laid BY PROGRAM, IN A SANDBOX (cutbox-door.mjs). By AI agents, Wed Nov 11 2026. No macro, syntax, notation, axiom, sorry.
-/
import Derived.Test.YtegdlpllljccgaaDoorRows
import GoSem.ClaimSeven
namespace Go.Proofs.YtegdlpllljccgaaDoor
namespace Rows

/-- THE TIED CARD OF 'bulkheadlaw05.RingRuns'. -/
def ringRunsCard : Claim7 := { stood := { row := ringRunsRow, standIns := [], harness := (true, "d780be85fb655109fe4228e97a1305037b6ffbc839906a1e7a43bc19af15e23f"), looks := true }, kinds := [], alts := [], laidByText := true, laidKinds := [.handle], laidTests := true, laidLooks := .later }
def RingRunsCardSaid : Prop := Claim7.holds Tryd.pinned (.plain (OpenSpec.ofChange ringRunsSpec)) ringRunsCard

/-- THE TIED CARD OF 'bulkheadlaw05.RingLasts'. -/
def ringLastsCard : Claim7 := { stood := { row := ringLastsRow, standIns := [], harness := (true, "d780be85fb655109fe4228e97a1305037b6ffbc839906a1e7a43bc19af15e23f"), looks := true }, kinds := [], alts := [], laidByText := true, laidKinds := [.handle], laidTests := true, laidLooks := .later }
def RingLastsCardSaid : Prop := Claim7.holds Tryd.pinned (.plain (OpenSpec.ofChange ringLastsSpec)) ringLastsCard

/-- THE TIED CARD OF 'bulkheadlaw05.RingOpens'. -/
def ringOpensCard : Claim7 := { stood := { row := ringOpensRow, standIns := [], harness := (true, "d780be85fb655109fe4228e97a1305037b6ffbc839906a1e7a43bc19af15e23f"), looks := true }, kinds := [], alts := [], laidByText := true, laidKinds := [.handle], laidTests := true, laidLooks := .later }
def RingOpensCardSaid : Prop := Claim7.holds Tryd.pinned (.plain (OpenSpec.ofChange ringOpensSpec)) ringOpensCard

/-- THE TIED CARD OF 'bulkheadlaw05.RingGhosts'. -/
def ringGhostsCard : Claim7 := { stood := { row := ringGhostsRow, standIns := [], harness := (true, "d780be85fb655109fe4228e97a1305037b6ffbc839906a1e7a43bc19af15e23f"), looks := true }, kinds := [], alts := [], laidByText := true, laidKinds := [.handle], laidTests := true, laidLooks := .later }
def RingGhostsCardSaid : Prop := Claim7.holds Tryd.pinned (.plain (OpenSpec.ofChange ringGhostsSpec)) ringGhostsCard

/-- THE TIED CARD OF 'bulkheadlaw05.RingNone'. -/
def ringNoneCard : Claim7 := { stood := { row := ringNoneRow, standIns := [], harness := (true, "d780be85fb655109fe4228e97a1305037b6ffbc839906a1e7a43bc19af15e23f"), looks := true }, kinds := [], alts := [], laidByText := true, laidKinds := [.handle], laidTests := true, laidLooks := .later }
def RingNoneCardSaid : Prop := Claim7.holds Tryd.pinned (.plain (OpenSpec.ofChange ringNoneSpec)) ringNoneCard

/-- THE TIED CARD OF 'bulkheadlaw05.RingRounds'. -/
def ringRoundsCard : Claim7 := { stood := { row := ringRoundsRow, standIns := [], harness := (true, "d780be85fb655109fe4228e97a1305037b6ffbc839906a1e7a43bc19af15e23f"), looks := true }, kinds := [], alts := [], laidByText := true, laidKinds := [.handle], laidTests := true, laidLooks := .later }
def RingRoundsCardSaid : Prop := Claim7.holds Tryd.pinned (.plain (OpenSpec.ofChange ringRoundsSpec)) ringRoundsCard

/-- THE TIED CARD OF 'bulkheadlaw05.RingEnds'. -/
def ringEndsCard : Claim7 := { stood := { row := ringEndsRow, standIns := [], harness := (true, "d780be85fb655109fe4228e97a1305037b6ffbc839906a1e7a43bc19af15e23f"), looks := true }, kinds := [], alts := [], laidByText := true, laidKinds := [.handle], laidTests := true, laidLooks := .later }
def RingEndsCardSaid : Prop := Claim7.holds Tryd.pinned (.plain (OpenSpec.ofChange ringEndsSpec)) ringEndsCard

/-- THE SECOND FORM's CARD OF 'bulkheadlaw05.RingRuns'. -/
def ringRunsUptoCard : Claim7 := { stood := { row := ringRunsUptoRow, standIns := [], harness := (true, "d780be85fb655109fe4228e97a1305037b6ffbc839906a1e7a43bc19af15e23f"), looks := true }, kinds := [], alts := [], laidByText := true, laidKinds := [.handle], laidTests := true, laidLooks := .later }
def RingRunsUptoCardSaid : Prop := Claim7.holds Tryd.pinned (.plain (OpenSpec.upto ringRunsSpec)) ringRunsUptoCard

/-- THE SECOND FORM's CARD OF 'bulkheadlaw05.RingLasts'. -/
def ringLastsUptoCard : Claim7 := { stood := { row := ringLastsUptoRow, standIns := [], harness := (true, "d780be85fb655109fe4228e97a1305037b6ffbc839906a1e7a43bc19af15e23f"), looks := true }, kinds := [], alts := [], laidByText := true, laidKinds := [.handle], laidTests := true, laidLooks := .later }
def RingLastsUptoCardSaid : Prop := Claim7.holds Tryd.pinned (.plain (OpenSpec.upto ringLastsSpec)) ringLastsUptoCard

/-- THE SECOND FORM's CARD OF 'bulkheadlaw05.RingOpens'. -/
def ringOpensUptoCard : Claim7 := { stood := { row := ringOpensUptoRow, standIns := [], harness := (true, "d780be85fb655109fe4228e97a1305037b6ffbc839906a1e7a43bc19af15e23f"), looks := true }, kinds := [], alts := [], laidByText := true, laidKinds := [.handle], laidTests := true, laidLooks := .later }
def RingOpensUptoCardSaid : Prop := Claim7.holds Tryd.pinned (.plain (OpenSpec.upto ringOpensSpec)) ringOpensUptoCard

/-- THE SECOND FORM's CARD OF 'bulkheadlaw05.RingGhosts'. -/
def ringGhostsUptoCard : Claim7 := { stood := { row := ringGhostsUptoRow, standIns := [], harness := (true, "d780be85fb655109fe4228e97a1305037b6ffbc839906a1e7a43bc19af15e23f"), looks := true }, kinds := [], alts := [], laidByText := true, laidKinds := [.handle], laidTests := true, laidLooks := .later }
def RingGhostsUptoCardSaid : Prop := Claim7.holds Tryd.pinned (.plain (OpenSpec.upto ringGhostsSpec)) ringGhostsUptoCard

/-- THE SECOND FORM's CARD OF 'bulkheadlaw05.RingNone'. -/
def ringNoneUptoCard : Claim7 := { stood := { row := ringNoneUptoRow, standIns := [], harness := (true, "d780be85fb655109fe4228e97a1305037b6ffbc839906a1e7a43bc19af15e23f"), looks := true }, kinds := [], alts := [], laidByText := true, laidKinds := [.handle], laidTests := true, laidLooks := .later }
def RingNoneUptoCardSaid : Prop := Claim7.holds Tryd.pinned (.plain (OpenSpec.upto ringNoneSpec)) ringNoneUptoCard

/-- THE SECOND FORM's CARD OF 'bulkheadlaw05.RingRounds'. -/
def ringRoundsUptoCard : Claim7 := { stood := { row := ringRoundsUptoRow, standIns := [], harness := (true, "d780be85fb655109fe4228e97a1305037b6ffbc839906a1e7a43bc19af15e23f"), looks := true }, kinds := [], alts := [], laidByText := true, laidKinds := [.handle], laidTests := true, laidLooks := .later }
def RingRoundsUptoCardSaid : Prop := Claim7.holds Tryd.pinned (.plain (OpenSpec.upto ringRoundsSpec)) ringRoundsUptoCard

/-- THE SECOND FORM's CARD OF 'bulkheadlaw05.RingEnds'. -/
def ringEndsUptoCard : Claim7 := { stood := { row := ringEndsUptoRow, standIns := [], harness := (true, "d780be85fb655109fe4228e97a1305037b6ffbc839906a1e7a43bc19af15e23f"), looks := true }, kinds := [], alts := [], laidByText := true, laidKinds := [.handle], laidTests := true, laidLooks := .later }
def RingEndsUptoCardSaid : Prop := Claim7.holds Tryd.pinned (.plain (OpenSpec.upto ringEndsSpec)) ringEndsUptoCard
end Rows
end Go.Proofs.YtegdlpllljccgaaDoor
