/-
  NARROWER THAN 'FOR EVERY INPUT', by the rows' own cells (each row's printed sentence says how): DepotMoves: laid · PrintsUndone: laid · DepotUndone: laid · PrintsRuns: laid · DepotRuns: laid.
  DERIVED. THE GIVEN ROWS OF THIS SEAT. 5 by the template 'for every input the law returns true; each argument reads behind the call as it read before'; 0 by the template 'total and deterministic' (their statements: YtjkkbceddbkejaaGreatDoorTotals.lean).
  GIVEN WITH THE SEED: the statements are not yours to turn. If you find one false, say at which input.
  Laid BY PROGRAM, IN A SANDBOX (cutbox-rows.mjs): the forced cells as the released guide's own fill.sh prints them over the translation 085cec261bdd0bd4… (all of the seat's roots in one cut). By AI agents, Wed Nov 11 2026. No macro, syntax, notation, axiom, sorry.
-/
import Derived.Test.YtjkkbceddbkejaaGreatDoorChecked
import GoSem.Claim
import GoSem.ClaimJoined
import GoSem.ClaimMapViews
import Derived.JoinedTies
import Derived.KernelRfl
namespace Go.Proofs.YtjkkbceddbkejaaGreatDoor
/- THE CELL 'sum', in the pinned program and in every row, IS THE sha256 OF THE DUMP (.gsa) THAT YtjkkbceddbkejaaGreatDoorProg.lean LOADS. Nothing in Lean hashes anything: it is a label: what it is worth is what the hold of that sum in a sandbox is worth. -/
noncomputable def Tryz.pinned : Pinned := { name := "ytjkkbceddbkejaagreatdoor", sum := "085cec261bdd0bd44a041854654ad094928d5451a6888c807637fd2f905ca325", checked := Tryz.checked }
namespace Rows
def none {H : Type} : Left H := { results := [], args := [] }

/- WHAT THE LISTED PACKAGE-LEVEL VARIABLES READ AS WHEN THE CALL BEGINS. Each datum BY PROGRAM (the guide's laid-datum.mjs) off the statement by which the dump's own 'gosem.cut.vars' lays the variable. In a bare row this is a premise. The card (YtjkkbceddbkejaaGreatDoorCards.lean) ties it to the program's text. -/
def laid_errors_errorType {H : Type} : DataW H := .iface "internal/reflectlite.rtype" (.agg [.ptr (.lit (.string [101, 114, 114, 111, 114]))])

/-- 'bulkheadlaw07.DepotMoves': WHATEVER THE INPUT: true; the input reads as it did. -/
def depotMovesSpec : ChangeSpec := { name := "depotMoves", fn := fun _ => fun
  | [d1, d2] => { results := [.lit (.bool true)], args := [d1, d2] }
  | _ => none }
def depotMovesRow : OpenClaim := { program := "ytjkkbceddbkejaagreatdoor", sum := "085cec261bdd0bd44a041854654ad094928d5451a6888c807637fd2f905ca325", func := "bulkhead/bulkheadlaw07.DepotMoves", spec := "depotMoves", inPlace := ["internal/reflectlite.ValueOf", "(internal/reflectlite.Value).Type", "(internal/reflectlite.Value).IsNil", "internal/reflectlite.TypeOf", "(internal/reflectlite.Value).Elem", "(internal/reflectlite.Value).Set"], unfollowed := true, recurses := true, named := ["errors.errorType"], apart := false, laid := [("errors.errorType", laid_errors_errorType)] }
def DepotMovesSaid : Prop := depotMovesRow.holds Tryz.pinned (OpenSpec.ofChange depotMovesSpec)

/-- ITS FALSE NEIGHBOUR: 'it returns false'. Refute it at one input. -/
def depotMovesWrong : ChangeSpec := { name := "depotMoves", fn := fun _ => fun
  | [d1, d2] => { results := [.lit (.bool false)], args := [d1, d2] }
  | _ => none }
def DepotMovesWrongFalsely : Prop := depotMovesRow.holds Tryz.pinned (OpenSpec.ofChange depotMovesWrong)

/-- 'bulkheadlaw08.PrintsUndone': WHATEVER THE INPUT: true; the input reads as it did. -/
def printsUndoneSpec : ChangeSpec := { name := "printsUndone", fn := fun _ => fun
  | [d1, d2] => { results := [.lit (.bool true)], args := [d1, d2] }
  | _ => none }
def printsUndoneRow : OpenClaim := { program := "ytjkkbceddbkejaagreatdoor", sum := "085cec261bdd0bd44a041854654ad094928d5451a6888c807637fd2f905ca325", func := "bulkhead/bulkheadlaw08.PrintsUndone", spec := "printsUndone", inPlace := ["internal/reflectlite.ValueOf", "(internal/reflectlite.Value).Type", "(internal/reflectlite.Value).IsNil", "internal/reflectlite.TypeOf", "(internal/reflectlite.Value).Elem", "(internal/reflectlite.Value).Set"], unfollowed := true, recurses := true, named := ["errors.errorType"], apart := false, laid := [("errors.errorType", laid_errors_errorType)] }
def PrintsUndoneSaid : Prop := printsUndoneRow.holds Tryz.pinned (OpenSpec.ofChange printsUndoneSpec)

/-- ITS FALSE NEIGHBOUR: 'it returns false'. Refute it at one input. -/
def printsUndoneWrong : ChangeSpec := { name := "printsUndone", fn := fun _ => fun
  | [d1, d2] => { results := [.lit (.bool false)], args := [d1, d2] }
  | _ => none }
def PrintsUndoneWrongFalsely : Prop := printsUndoneRow.holds Tryz.pinned (OpenSpec.ofChange printsUndoneWrong)

/-- 'bulkheadlaw07.DepotUndone': WHATEVER THE INPUT: true; the input reads as it did. -/
def depotUndoneSpec : ChangeSpec := { name := "depotUndone", fn := fun _ => fun
  | [d1, d2] => { results := [.lit (.bool true)], args := [d1, d2] }
  | _ => none }
def depotUndoneRow : OpenClaim := { program := "ytjkkbceddbkejaagreatdoor", sum := "085cec261bdd0bd44a041854654ad094928d5451a6888c807637fd2f905ca325", func := "bulkhead/bulkheadlaw07.DepotUndone", spec := "depotUndone", inPlace := ["internal/reflectlite.ValueOf", "(internal/reflectlite.Value).Type", "(internal/reflectlite.Value).IsNil", "internal/reflectlite.TypeOf", "(internal/reflectlite.Value).Elem", "(internal/reflectlite.Value).Set"], unfollowed := true, recurses := true, named := ["errors.errorType"], apart := false, laid := [("errors.errorType", laid_errors_errorType)] }
def DepotUndoneSaid : Prop := depotUndoneRow.holds Tryz.pinned (OpenSpec.ofChange depotUndoneSpec)

/-- ITS FALSE NEIGHBOUR: 'it returns false'. Refute it at one input. -/
def depotUndoneWrong : ChangeSpec := { name := "depotUndone", fn := fun _ => fun
  | [d1, d2] => { results := [.lit (.bool false)], args := [d1, d2] }
  | _ => none }
def DepotUndoneWrongFalsely : Prop := depotUndoneRow.holds Tryz.pinned (OpenSpec.ofChange depotUndoneWrong)

/-- 'bulkheadlaw08.PrintsRuns': WHATEVER THE INPUT: true; the input reads as it did. -/
def printsRunsSpec : ChangeSpec := { name := "printsRuns", fn := fun _ => fun
  | [d1, d2] => { results := [.lit (.bool true)], args := [d1, d2] }
  | _ => none }
def printsRunsRow : OpenClaim := { program := "ytjkkbceddbkejaagreatdoor", sum := "085cec261bdd0bd44a041854654ad094928d5451a6888c807637fd2f905ca325", func := "bulkhead/bulkheadlaw08.PrintsRuns", spec := "printsRuns", inPlace := ["internal/reflectlite.ValueOf", "(internal/reflectlite.Value).Type", "(internal/reflectlite.Value).IsNil", "internal/reflectlite.TypeOf", "(internal/reflectlite.Value).Elem", "(internal/reflectlite.Value).Set"], unfollowed := true, recurses := true, named := ["errors.errorType"], apart := false, laid := [("errors.errorType", laid_errors_errorType)] }
def PrintsRunsSaid : Prop := printsRunsRow.holds Tryz.pinned (OpenSpec.ofChange printsRunsSpec)

/-- ITS FALSE NEIGHBOUR: 'it returns false'. Refute it at one input. -/
def printsRunsWrong : ChangeSpec := { name := "printsRuns", fn := fun _ => fun
  | [d1, d2] => { results := [.lit (.bool false)], args := [d1, d2] }
  | _ => none }
def PrintsRunsWrongFalsely : Prop := printsRunsRow.holds Tryz.pinned (OpenSpec.ofChange printsRunsWrong)

/-- 'bulkheadlaw07.DepotRuns': WHATEVER THE INPUT: true; the input reads as it did. -/
def depotRunsSpec : ChangeSpec := { name := "depotRuns", fn := fun _ => fun
  | [d1, d2] => { results := [.lit (.bool true)], args := [d1, d2] }
  | _ => none }
def depotRunsRow : OpenClaim := { program := "ytjkkbceddbkejaagreatdoor", sum := "085cec261bdd0bd44a041854654ad094928d5451a6888c807637fd2f905ca325", func := "bulkhead/bulkheadlaw07.DepotRuns", spec := "depotRuns", inPlace := ["internal/reflectlite.ValueOf", "(internal/reflectlite.Value).Type", "(internal/reflectlite.Value).IsNil", "internal/reflectlite.TypeOf", "(internal/reflectlite.Value).Elem", "(internal/reflectlite.Value).Set"], unfollowed := true, recurses := true, named := ["errors.errorType"], apart := false, laid := [("errors.errorType", laid_errors_errorType)] }
def DepotRunsSaid : Prop := depotRunsRow.holds Tryz.pinned (OpenSpec.ofChange depotRunsSpec)

/-- ITS FALSE NEIGHBOUR: 'it returns false'. Refute it at one input. -/
def depotRunsWrong : ChangeSpec := { name := "depotRuns", fn := fun _ => fun
  | [d1, d2] => { results := [.lit (.bool false)], args := [d1, d2] }
  | _ => none }
def DepotRunsWrongFalsely : Prop := depotRunsRow.holds Tryz.pinned (OpenSpec.ofChange depotRunsWrong)

/- THE SECOND FORM. 'bulk': how many values and letters a reading holds, each counted each time it is reached (what is shared counts as often as it is met; a slice's spare places count too). A statement '..UptoSaid' is the law's where the arguments, and the package variables that the reading takes, are together of bulk at most 1048576: NARROWER than '..Said'. Prove '..Said' where nothing that the law and all that it calls make is longer than what came in: it says more and counts as full. Else prove '..UptoSaid'. A law counts once. -/
mutual
def uptoBulk {H : Type} : DataW H → Nat
  | .lit (.string bytes) => bytes.length + 1
  | .lit _ => 1
  | .nil => 1
  | .ptr d => uptoBulk d + 1
  | .slice elems spare => uptoBulkAll elems + uptoBulkAll spare + 1
  | .agg parts => uptoBulkAll parts + 1
  | .iface _ d => uptoBulk d + 1
  | .map entries => uptoBulkEntries entries + 1
  | .held _ => 1
def uptoBulkAll {H : Type} : List (DataW H) → Nat
  | [] => 0
  | d :: r => uptoBulk d + uptoBulkAll r
def uptoBulkEntries {H : Type} : List (Lit × DataW H) → Nat
  | [] => 0
  | x :: r => uptoBulkEntry x + uptoBulkEntries r
def uptoBulkEntry {H : Type} : Lit × DataW H → Nat
  | (.string bytes, d) => bytes.length + uptoBulk d + 1
  | (_, d) => uptoBulk d + 1
 end
def uptoSmall : (H : Type) → List (DataW H) → Bool := fun _ ds => decide (uptoBulkAll ds ≤ 1048576)
def OpenSpec.upto (s : _root_.Go.ChangeSpec) : _root_.Go.OpenSpec := { _root_.Go.OpenSpec.ofChange s with cond := some uptoSmall }

/-- 'bulkheadlaw07.DepotMoves', WHERE WHAT IT READS IS OF BULK AT MOST 1048576: true; the input reads as it did. -/
def depotMovesUptoRow : OpenClaim := { program := "ytjkkbceddbkejaagreatdoor", sum := "085cec261bdd0bd44a041854654ad094928d5451a6888c807637fd2f905ca325", func := "bulkhead/bulkheadlaw07.DepotMoves", spec := "depotMoves", inPlace := ["internal/reflectlite.ValueOf", "(internal/reflectlite.Value).Type", "(internal/reflectlite.Value).IsNil", "internal/reflectlite.TypeOf", "(internal/reflectlite.Value).Elem", "(internal/reflectlite.Value).Set"], unfollowed := true, recurses := true, named := ["errors.errorType"], apart := false, laid := [("errors.errorType", laid_errors_errorType)], narrowed := true }
def DepotMovesUptoSaid : Prop := depotMovesUptoRow.holds Tryz.pinned (OpenSpec.upto depotMovesSpec)

/-- 'bulkheadlaw08.PrintsUndone', WHERE WHAT IT READS IS OF BULK AT MOST 1048576: true; the input reads as it did. -/
def printsUndoneUptoRow : OpenClaim := { program := "ytjkkbceddbkejaagreatdoor", sum := "085cec261bdd0bd44a041854654ad094928d5451a6888c807637fd2f905ca325", func := "bulkhead/bulkheadlaw08.PrintsUndone", spec := "printsUndone", inPlace := ["internal/reflectlite.ValueOf", "(internal/reflectlite.Value).Type", "(internal/reflectlite.Value).IsNil", "internal/reflectlite.TypeOf", "(internal/reflectlite.Value).Elem", "(internal/reflectlite.Value).Set"], unfollowed := true, recurses := true, named := ["errors.errorType"], apart := false, laid := [("errors.errorType", laid_errors_errorType)], narrowed := true }
def PrintsUndoneUptoSaid : Prop := printsUndoneUptoRow.holds Tryz.pinned (OpenSpec.upto printsUndoneSpec)

/-- 'bulkheadlaw07.DepotUndone', WHERE WHAT IT READS IS OF BULK AT MOST 1048576: true; the input reads as it did. -/
def depotUndoneUptoRow : OpenClaim := { program := "ytjkkbceddbkejaagreatdoor", sum := "085cec261bdd0bd44a041854654ad094928d5451a6888c807637fd2f905ca325", func := "bulkhead/bulkheadlaw07.DepotUndone", spec := "depotUndone", inPlace := ["internal/reflectlite.ValueOf", "(internal/reflectlite.Value).Type", "(internal/reflectlite.Value).IsNil", "internal/reflectlite.TypeOf", "(internal/reflectlite.Value).Elem", "(internal/reflectlite.Value).Set"], unfollowed := true, recurses := true, named := ["errors.errorType"], apart := false, laid := [("errors.errorType", laid_errors_errorType)], narrowed := true }
def DepotUndoneUptoSaid : Prop := depotUndoneUptoRow.holds Tryz.pinned (OpenSpec.upto depotUndoneSpec)

/-- 'bulkheadlaw08.PrintsRuns', WHERE WHAT IT READS IS OF BULK AT MOST 1048576: true; the input reads as it did. -/
def printsRunsUptoRow : OpenClaim := { program := "ytjkkbceddbkejaagreatdoor", sum := "085cec261bdd0bd44a041854654ad094928d5451a6888c807637fd2f905ca325", func := "bulkhead/bulkheadlaw08.PrintsRuns", spec := "printsRuns", inPlace := ["internal/reflectlite.ValueOf", "(internal/reflectlite.Value).Type", "(internal/reflectlite.Value).IsNil", "internal/reflectlite.TypeOf", "(internal/reflectlite.Value).Elem", "(internal/reflectlite.Value).Set"], unfollowed := true, recurses := true, named := ["errors.errorType"], apart := false, laid := [("errors.errorType", laid_errors_errorType)], narrowed := true }
def PrintsRunsUptoSaid : Prop := printsRunsUptoRow.holds Tryz.pinned (OpenSpec.upto printsRunsSpec)

/-- 'bulkheadlaw07.DepotRuns', WHERE WHAT IT READS IS OF BULK AT MOST 1048576: true; the input reads as it did. -/
def depotRunsUptoRow : OpenClaim := { program := "ytjkkbceddbkejaagreatdoor", sum := "085cec261bdd0bd44a041854654ad094928d5451a6888c807637fd2f905ca325", func := "bulkhead/bulkheadlaw07.DepotRuns", spec := "depotRuns", inPlace := ["internal/reflectlite.ValueOf", "(internal/reflectlite.Value).Type", "(internal/reflectlite.Value).IsNil", "internal/reflectlite.TypeOf", "(internal/reflectlite.Value).Elem", "(internal/reflectlite.Value).Set"], unfollowed := true, recurses := true, named := ["errors.errorType"], apart := false, laid := [("errors.errorType", laid_errors_errorType)], narrowed := true }
def DepotRunsUptoSaid : Prop := depotRunsUptoRow.holds Tryz.pinned (OpenSpec.upto depotRunsSpec)

end Rows
end Go.Proofs.YtjkkbceddbkejaaGreatDoor
