/-
  NARROWER THAN 'FOR EVERY INPUT', by the rows' own cells (each row's printed sentence says how): DepotNone: laid · DepotCounts: laid · DepotFills: laid · DepotMoves: laid · DepotUndone: laid · DepotRuns: laid · PrintsNone: laid · PrintsFills: laid · PrintsGoes: laid · PrintsRuns: laid · PrintsUndone: laid.
  DERIVED. THE GIVEN ROWS OF THIS SEAT. 11 by the template 'for every input the law returns true; each argument reads behind the call as it read before'; 0 by the template 'total and deterministic' (their statements: YtopjhgpgompenaaGreatDoorTotals.lean).
  GIVEN WITH THE SEED: the statements are not yours to turn. If you find one false, say at which input.
  Laid BY PROGRAM, IN A SANDBOX (cutbox-rows.mjs): the forced cells as the released guide's own fill.sh prints them over the translation 771b1b25b083c035… (all of the seat's roots in one cut). By AI agents, Wed Nov 11 2026. No macro, syntax, notation, axiom, sorry.
-/
import Derived.Test.YtopjhgpgompenaaGreatDoorChecked
import GoSem.Claim
import GoSem.ClaimJoined
import GoSem.ClaimMapViews
import Derived.JoinedTies
import Derived.KernelRfl
namespace Go.Proofs.YtopjhgpgompenaaGreatDoor
/- THE CELL 'sum', in the pinned program and in every row, IS THE sha256 OF THE DUMP (.gsa) THAT YtopjhgpgompenaaGreatDoorProg.lean LOADS. Nothing in Lean hashes anything: it is a label: what it is worth is what the hold of that sum in a sandbox is worth. -/
noncomputable def Tryz.pinned : Pinned := { name := "ytopjhgpgompenaagreatdoor", sum := "771b1b25b083c03529caea194b142ea42835489a9b89b1cb0bc447707edb4dd2", checked := Tryz.checked }
namespace Rows
def none {H : Type} : Left H := { results := [], args := [] }

/- WHAT THE LISTED PACKAGE-LEVEL VARIABLES READ AS WHEN THE CALL BEGINS. Each datum BY PROGRAM (the guide's laid-datum.mjs) off the statement by which the dump's own 'gosem.cut.vars' lays the variable. In a bare row this is a premise. The card (YtopjhgpgompenaaGreatDoorCards.lean) ties it to the program's text. -/
def laid_errors_errorType {H : Type} : DataW H := .iface "internal/reflectlite.rtype" (.agg [.ptr (.lit (.string [101, 114, 114, 111, 114]))])

/-- 'bulkheadlaw07.DepotNone': WHATEVER THE INPUT: true; the input reads as it did. -/
def depotNoneSpec : ChangeSpec := { name := "depotNone", fn := fun _ => fun
  | [d1, d2, d3] => { results := [.lit (.bool true)], args := [d1, d2, d3] }
  | _ => none }
def depotNoneRow : OpenClaim := { program := "ytopjhgpgompenaagreatdoor", sum := "771b1b25b083c03529caea194b142ea42835489a9b89b1cb0bc447707edb4dd2", func := "bulkhead/bulkheadlaw07.DepotNone", spec := "depotNone", inPlace := ["internal/reflectlite.ValueOf", "(internal/reflectlite.Value).Type", "(internal/reflectlite.Value).IsNil", "internal/reflectlite.TypeOf", "(internal/reflectlite.Value).Elem", "(internal/reflectlite.Value).Set"], unfollowed := true, recurses := true, named := ["errors.errorType"], apart := false, laid := [("errors.errorType", laid_errors_errorType)] }
def DepotNoneSaid : Prop := depotNoneRow.holds Tryz.pinned (OpenSpec.ofChange depotNoneSpec)

/-- ITS FALSE NEIGHBOUR: 'it returns false'. Refute it at one input. -/
def depotNoneWrong : ChangeSpec := { name := "depotNone", fn := fun _ => fun
  | [d1, d2, d3] => { results := [.lit (.bool false)], args := [d1, d2, d3] }
  | _ => none }
def DepotNoneWrongFalsely : Prop := depotNoneRow.holds Tryz.pinned (OpenSpec.ofChange depotNoneWrong)

/-- 'bulkheadlaw07.DepotCounts': WHATEVER THE INPUT: true; the input reads as it did. -/
def depotCountsSpec : ChangeSpec := { name := "depotCounts", fn := fun _ => fun
  | [d] => { results := [.lit (.bool true)], args := [d] }
  | _ => none }
def depotCountsRow : OpenClaim := { program := "ytopjhgpgompenaagreatdoor", sum := "771b1b25b083c03529caea194b142ea42835489a9b89b1cb0bc447707edb4dd2", func := "bulkhead/bulkheadlaw07.DepotCounts", spec := "depotCounts", inPlace := ["internal/reflectlite.ValueOf", "(internal/reflectlite.Value).Type", "(internal/reflectlite.Value).IsNil", "internal/reflectlite.TypeOf", "(internal/reflectlite.Value).Elem", "(internal/reflectlite.Value).Set"], unfollowed := true, recurses := true, named := ["errors.errorType"], apart := false, laid := [("errors.errorType", laid_errors_errorType)] }
def DepotCountsSaid : Prop := depotCountsRow.holds Tryz.pinned (OpenSpec.ofChange depotCountsSpec)

/-- ITS FALSE NEIGHBOUR: 'it returns false'. Refute it at one input. -/
def depotCountsWrong : ChangeSpec := { name := "depotCounts", fn := fun _ => fun
  | [d] => { results := [.lit (.bool false)], args := [d] }
  | _ => none }
def DepotCountsWrongFalsely : Prop := depotCountsRow.holds Tryz.pinned (OpenSpec.ofChange depotCountsWrong)

/-- 'bulkheadlaw07.DepotFills': WHATEVER THE INPUT: true; the input reads as it did. -/
def depotFillsSpec : ChangeSpec := { name := "depotFills", fn := fun _ => fun
  | [d1, d2] => { results := [.lit (.bool true)], args := [d1, d2] }
  | _ => none }
def depotFillsRow : OpenClaim := { program := "ytopjhgpgompenaagreatdoor", sum := "771b1b25b083c03529caea194b142ea42835489a9b89b1cb0bc447707edb4dd2", func := "bulkhead/bulkheadlaw07.DepotFills", spec := "depotFills", inPlace := ["internal/reflectlite.ValueOf", "(internal/reflectlite.Value).Type", "(internal/reflectlite.Value).IsNil", "internal/reflectlite.TypeOf", "(internal/reflectlite.Value).Elem", "(internal/reflectlite.Value).Set"], unfollowed := true, recurses := true, named := ["errors.errorType"], apart := false, laid := [("errors.errorType", laid_errors_errorType)] }
def DepotFillsSaid : Prop := depotFillsRow.holds Tryz.pinned (OpenSpec.ofChange depotFillsSpec)

/-- ITS FALSE NEIGHBOUR: 'it returns false'. Refute it at one input. -/
def depotFillsWrong : ChangeSpec := { name := "depotFills", fn := fun _ => fun
  | [d1, d2] => { results := [.lit (.bool false)], args := [d1, d2] }
  | _ => none }
def DepotFillsWrongFalsely : Prop := depotFillsRow.holds Tryz.pinned (OpenSpec.ofChange depotFillsWrong)

/-- 'bulkheadlaw07.DepotMoves': WHATEVER THE INPUT: true; the input reads as it did. -/
def depotMovesSpec : ChangeSpec := { name := "depotMoves", fn := fun _ => fun
  | [d1, d2] => { results := [.lit (.bool true)], args := [d1, d2] }
  | _ => none }
def depotMovesRow : OpenClaim := { program := "ytopjhgpgompenaagreatdoor", sum := "771b1b25b083c03529caea194b142ea42835489a9b89b1cb0bc447707edb4dd2", func := "bulkhead/bulkheadlaw07.DepotMoves", spec := "depotMoves", inPlace := ["internal/reflectlite.ValueOf", "(internal/reflectlite.Value).Type", "(internal/reflectlite.Value).IsNil", "internal/reflectlite.TypeOf", "(internal/reflectlite.Value).Elem", "(internal/reflectlite.Value).Set"], unfollowed := true, recurses := true, named := ["errors.errorType"], apart := false, laid := [("errors.errorType", laid_errors_errorType)] }
def DepotMovesSaid : Prop := depotMovesRow.holds Tryz.pinned (OpenSpec.ofChange depotMovesSpec)

/-- ITS FALSE NEIGHBOUR: 'it returns false'. Refute it at one input. -/
def depotMovesWrong : ChangeSpec := { name := "depotMoves", fn := fun _ => fun
  | [d1, d2] => { results := [.lit (.bool false)], args := [d1, d2] }
  | _ => none }
def DepotMovesWrongFalsely : Prop := depotMovesRow.holds Tryz.pinned (OpenSpec.ofChange depotMovesWrong)

/-- 'bulkheadlaw07.DepotUndone': WHATEVER THE INPUT: true; the input reads as it did. -/
def depotUndoneSpec : ChangeSpec := { name := "depotUndone", fn := fun _ => fun
  | [d1, d2] => { results := [.lit (.bool true)], args := [d1, d2] }
  | _ => none }
def depotUndoneRow : OpenClaim := { program := "ytopjhgpgompenaagreatdoor", sum := "771b1b25b083c03529caea194b142ea42835489a9b89b1cb0bc447707edb4dd2", func := "bulkhead/bulkheadlaw07.DepotUndone", spec := "depotUndone", inPlace := ["internal/reflectlite.ValueOf", "(internal/reflectlite.Value).Type", "(internal/reflectlite.Value).IsNil", "internal/reflectlite.TypeOf", "(internal/reflectlite.Value).Elem", "(internal/reflectlite.Value).Set"], unfollowed := true, recurses := true, named := ["errors.errorType"], apart := false, laid := [("errors.errorType", laid_errors_errorType)] }
def DepotUndoneSaid : Prop := depotUndoneRow.holds Tryz.pinned (OpenSpec.ofChange depotUndoneSpec)

/-- ITS FALSE NEIGHBOUR: 'it returns false'. Refute it at one input. -/
def depotUndoneWrong : ChangeSpec := { name := "depotUndone", fn := fun _ => fun
  | [d1, d2] => { results := [.lit (.bool false)], args := [d1, d2] }
  | _ => none }
def DepotUndoneWrongFalsely : Prop := depotUndoneRow.holds Tryz.pinned (OpenSpec.ofChange depotUndoneWrong)

/-- 'bulkheadlaw07.DepotRuns': WHATEVER THE INPUT: true; the input reads as it did. -/
def depotRunsSpec : ChangeSpec := { name := "depotRuns", fn := fun _ => fun
  | [d1, d2] => { results := [.lit (.bool true)], args := [d1, d2] }
  | _ => none }
def depotRunsRow : OpenClaim := { program := "ytopjhgpgompenaagreatdoor", sum := "771b1b25b083c03529caea194b142ea42835489a9b89b1cb0bc447707edb4dd2", func := "bulkhead/bulkheadlaw07.DepotRuns", spec := "depotRuns", inPlace := ["internal/reflectlite.ValueOf", "(internal/reflectlite.Value).Type", "(internal/reflectlite.Value).IsNil", "internal/reflectlite.TypeOf", "(internal/reflectlite.Value).Elem", "(internal/reflectlite.Value).Set"], unfollowed := true, recurses := true, named := ["errors.errorType"], apart := false, laid := [("errors.errorType", laid_errors_errorType)] }
def DepotRunsSaid : Prop := depotRunsRow.holds Tryz.pinned (OpenSpec.ofChange depotRunsSpec)

/-- ITS FALSE NEIGHBOUR: 'it returns false'. Refute it at one input. -/
def depotRunsWrong : ChangeSpec := { name := "depotRuns", fn := fun _ => fun
  | [d1, d2] => { results := [.lit (.bool false)], args := [d1, d2] }
  | _ => none }
def DepotRunsWrongFalsely : Prop := depotRunsRow.holds Tryz.pinned (OpenSpec.ofChange depotRunsWrong)

/-- 'bulkheadlaw08.PrintsNone': WHATEVER THE INPUT: true; the input reads as it did. -/
def printsNoneSpec : ChangeSpec := { name := "printsNone", fn := fun _ => fun
  | [d1, d2, d3] => { results := [.lit (.bool true)], args := [d1, d2, d3] }
  | _ => none }
def printsNoneRow : OpenClaim := { program := "ytopjhgpgompenaagreatdoor", sum := "771b1b25b083c03529caea194b142ea42835489a9b89b1cb0bc447707edb4dd2", func := "bulkhead/bulkheadlaw08.PrintsNone", spec := "printsNone", inPlace := ["internal/reflectlite.ValueOf", "(internal/reflectlite.Value).Type", "(internal/reflectlite.Value).IsNil", "internal/reflectlite.TypeOf", "(internal/reflectlite.Value).Elem", "(internal/reflectlite.Value).Set"], unfollowed := true, recurses := true, named := ["errors.errorType"], apart := false, laid := [("errors.errorType", laid_errors_errorType)] }
def PrintsNoneSaid : Prop := printsNoneRow.holds Tryz.pinned (OpenSpec.ofChange printsNoneSpec)

/-- ITS FALSE NEIGHBOUR: 'it returns false'. Refute it at one input. -/
def printsNoneWrong : ChangeSpec := { name := "printsNone", fn := fun _ => fun
  | [d1, d2, d3] => { results := [.lit (.bool false)], args := [d1, d2, d3] }
  | _ => none }
def PrintsNoneWrongFalsely : Prop := printsNoneRow.holds Tryz.pinned (OpenSpec.ofChange printsNoneWrong)

/-- 'bulkheadlaw08.PrintsFills': WHATEVER THE INPUT: true; the input reads as it did. -/
def printsFillsSpec : ChangeSpec := { name := "printsFills", fn := fun _ => fun
  | [d1, d2, d3] => { results := [.lit (.bool true)], args := [d1, d2, d3] }
  | _ => none }
def printsFillsRow : OpenClaim := { program := "ytopjhgpgompenaagreatdoor", sum := "771b1b25b083c03529caea194b142ea42835489a9b89b1cb0bc447707edb4dd2", func := "bulkhead/bulkheadlaw08.PrintsFills", spec := "printsFills", inPlace := ["internal/reflectlite.ValueOf", "(internal/reflectlite.Value).Type", "(internal/reflectlite.Value).IsNil", "internal/reflectlite.TypeOf", "(internal/reflectlite.Value).Elem", "(internal/reflectlite.Value).Set"], unfollowed := true, recurses := true, named := ["errors.errorType"], apart := false, laid := [("errors.errorType", laid_errors_errorType)] }
def PrintsFillsSaid : Prop := printsFillsRow.holds Tryz.pinned (OpenSpec.ofChange printsFillsSpec)

/-- ITS FALSE NEIGHBOUR: 'it returns false'. Refute it at one input. -/
def printsFillsWrong : ChangeSpec := { name := "printsFills", fn := fun _ => fun
  | [d1, d2, d3] => { results := [.lit (.bool false)], args := [d1, d2, d3] }
  | _ => none }
def PrintsFillsWrongFalsely : Prop := printsFillsRow.holds Tryz.pinned (OpenSpec.ofChange printsFillsWrong)

/-- 'bulkheadlaw08.PrintsGoes': WHATEVER THE INPUT: true; the input reads as it did. -/
def printsGoesSpec : ChangeSpec := { name := "printsGoes", fn := fun _ => fun
  | [d1, d2] => { results := [.lit (.bool true)], args := [d1, d2] }
  | _ => none }
def printsGoesRow : OpenClaim := { program := "ytopjhgpgompenaagreatdoor", sum := "771b1b25b083c03529caea194b142ea42835489a9b89b1cb0bc447707edb4dd2", func := "bulkhead/bulkheadlaw08.PrintsGoes", spec := "printsGoes", inPlace := ["internal/reflectlite.ValueOf", "(internal/reflectlite.Value).Type", "(internal/reflectlite.Value).IsNil", "internal/reflectlite.TypeOf", "(internal/reflectlite.Value).Elem", "(internal/reflectlite.Value).Set"], unfollowed := true, recurses := true, named := ["errors.errorType"], apart := false, laid := [("errors.errorType", laid_errors_errorType)] }
def PrintsGoesSaid : Prop := printsGoesRow.holds Tryz.pinned (OpenSpec.ofChange printsGoesSpec)

/-- ITS FALSE NEIGHBOUR: 'it returns false'. Refute it at one input. -/
def printsGoesWrong : ChangeSpec := { name := "printsGoes", fn := fun _ => fun
  | [d1, d2] => { results := [.lit (.bool false)], args := [d1, d2] }
  | _ => none }
def PrintsGoesWrongFalsely : Prop := printsGoesRow.holds Tryz.pinned (OpenSpec.ofChange printsGoesWrong)

/-- 'bulkheadlaw08.PrintsRuns': WHATEVER THE INPUT: true; the input reads as it did. -/
def printsRunsSpec : ChangeSpec := { name := "printsRuns", fn := fun _ => fun
  | [d1, d2] => { results := [.lit (.bool true)], args := [d1, d2] }
  | _ => none }
def printsRunsRow : OpenClaim := { program := "ytopjhgpgompenaagreatdoor", sum := "771b1b25b083c03529caea194b142ea42835489a9b89b1cb0bc447707edb4dd2", func := "bulkhead/bulkheadlaw08.PrintsRuns", spec := "printsRuns", inPlace := ["internal/reflectlite.ValueOf", "(internal/reflectlite.Value).Type", "(internal/reflectlite.Value).IsNil", "internal/reflectlite.TypeOf", "(internal/reflectlite.Value).Elem", "(internal/reflectlite.Value).Set"], unfollowed := true, recurses := true, named := ["errors.errorType"], apart := false, laid := [("errors.errorType", laid_errors_errorType)] }
def PrintsRunsSaid : Prop := printsRunsRow.holds Tryz.pinned (OpenSpec.ofChange printsRunsSpec)

/-- ITS FALSE NEIGHBOUR: 'it returns false'. Refute it at one input. -/
def printsRunsWrong : ChangeSpec := { name := "printsRuns", fn := fun _ => fun
  | [d1, d2] => { results := [.lit (.bool false)], args := [d1, d2] }
  | _ => none }
def PrintsRunsWrongFalsely : Prop := printsRunsRow.holds Tryz.pinned (OpenSpec.ofChange printsRunsWrong)

/-- 'bulkheadlaw08.PrintsUndone': WHATEVER THE INPUT: true; the input reads as it did. -/
def printsUndoneSpec : ChangeSpec := { name := "printsUndone", fn := fun _ => fun
  | [d1, d2] => { results := [.lit (.bool true)], args := [d1, d2] }
  | _ => none }
def printsUndoneRow : OpenClaim := { program := "ytopjhgpgompenaagreatdoor", sum := "771b1b25b083c03529caea194b142ea42835489a9b89b1cb0bc447707edb4dd2", func := "bulkhead/bulkheadlaw08.PrintsUndone", spec := "printsUndone", inPlace := ["internal/reflectlite.ValueOf", "(internal/reflectlite.Value).Type", "(internal/reflectlite.Value).IsNil", "internal/reflectlite.TypeOf", "(internal/reflectlite.Value).Elem", "(internal/reflectlite.Value).Set"], unfollowed := true, recurses := true, named := ["errors.errorType"], apart := false, laid := [("errors.errorType", laid_errors_errorType)] }
def PrintsUndoneSaid : Prop := printsUndoneRow.holds Tryz.pinned (OpenSpec.ofChange printsUndoneSpec)

/-- ITS FALSE NEIGHBOUR: 'it returns false'. Refute it at one input. -/
def printsUndoneWrong : ChangeSpec := { name := "printsUndone", fn := fun _ => fun
  | [d1, d2] => { results := [.lit (.bool false)], args := [d1, d2] }
  | _ => none }
def PrintsUndoneWrongFalsely : Prop := printsUndoneRow.holds Tryz.pinned (OpenSpec.ofChange printsUndoneWrong)

/- THE SECOND FORM. 'bulk': how many values and letters a reading holds, each counted each time it is reached (what is shared counts as often as it is met; a slice's spare places count too). A statement '..UptoSaid' is the law's where the arguments, and the package variables that the reading takes, are together of bulk at most 1048576: NARROWER than '..Said'. Prove '..Said' where nothing that the law and all that it calls make is longer than what came in: it says more and counts as full. Else prove '..UptoSaid'. A law counts once. -/
mutual
def uptoBulk {H : Type} : DataW H → Nat
  | .lit (.string bytes) => bytes.length + 1
  | .lit _ => 1
  | .nil => 1
  | .ptr d => uptoBulk d + 1
  | .slice elems spare => uptoBulkAll elems + uptoBulkAll spare + 1
  | .agg parts => uptoBulkAll parts + 1
  | .iface _ d => uptoBulk d + 1
  | .map entries => uptoBulkEntries entries + 1
  | .held _ => 1
def uptoBulkAll {H : Type} : List (DataW H) → Nat
  | [] => 0
  | d :: r => uptoBulk d + uptoBulkAll r
def uptoBulkEntries {H : Type} : List (Lit × DataW H) → Nat
  | [] => 0
  | x :: r => uptoBulkEntry x + uptoBulkEntries r
def uptoBulkEntry {H : Type} : Lit × DataW H → Nat
  | (.string bytes, d) => bytes.length + uptoBulk d + 1
  | (_, d) => uptoBulk d + 1
 end
def uptoSmall : (H : Type) → List (DataW H) → Bool := fun _ ds => decide (uptoBulkAll ds ≤ 1048576)
def OpenSpec.upto (s : _root_.Go.ChangeSpec) : _root_.Go.OpenSpec := { _root_.Go.OpenSpec.ofChange s with cond := some uptoSmall }

/-- 'bulkheadlaw07.DepotNone', WHERE WHAT IT READS IS OF BULK AT MOST 1048576: true; the input reads as it did. -/
def depotNoneUptoRow : OpenClaim := { program := "ytopjhgpgompenaagreatdoor", sum := "771b1b25b083c03529caea194b142ea42835489a9b89b1cb0bc447707edb4dd2", func := "bulkhead/bulkheadlaw07.DepotNone", spec := "depotNone", inPlace := ["internal/reflectlite.ValueOf", "(internal/reflectlite.Value).Type", "(internal/reflectlite.Value).IsNil", "internal/reflectlite.TypeOf", "(internal/reflectlite.Value).Elem", "(internal/reflectlite.Value).Set"], unfollowed := true, recurses := true, named := ["errors.errorType"], apart := false, laid := [("errors.errorType", laid_errors_errorType)], narrowed := true }
def DepotNoneUptoSaid : Prop := depotNoneUptoRow.holds Tryz.pinned (OpenSpec.upto depotNoneSpec)

/-- 'bulkheadlaw07.DepotCounts', WHERE WHAT IT READS IS OF BULK AT MOST 1048576: true; the input reads as it did. -/
def depotCountsUptoRow : OpenClaim := { program := "ytopjhgpgompenaagreatdoor", sum := "771b1b25b083c03529caea194b142ea42835489a9b89b1cb0bc447707edb4dd2", func := "bulkhead/bulkheadlaw07.DepotCounts", spec := "depotCounts", inPlace := ["internal/reflectlite.ValueOf", "(internal/reflectlite.Value).Type", "(internal/reflectlite.Value).IsNil", "internal/reflectlite.TypeOf", "(internal/reflectlite.Value).Elem", "(internal/reflectlite.Value).Set"], unfollowed := true, recurses := true, named := ["errors.errorType"], apart := false, laid := [("errors.errorType", laid_errors_errorType)], narrowed := true }
def DepotCountsUptoSaid : Prop := depotCountsUptoRow.holds Tryz.pinned (OpenSpec.upto depotCountsSpec)

/-- 'bulkheadlaw07.DepotFills', WHERE WHAT IT READS IS OF BULK AT MOST 1048576: true; the input reads as it did. -/
def depotFillsUptoRow : OpenClaim := { program := "ytopjhgpgompenaagreatdoor", sum := "771b1b25b083c03529caea194b142ea42835489a9b89b1cb0bc447707edb4dd2", func := "bulkhead/bulkheadlaw07.DepotFills", spec := "depotFills", inPlace := ["internal/reflectlite.ValueOf", "(internal/reflectlite.Value).Type", "(internal/reflectlite.Value).IsNil", "internal/reflectlite.TypeOf", "(internal/reflectlite.Value).Elem", "(internal/reflectlite.Value).Set"], unfollowed := true, recurses := true, named := ["errors.errorType"], apart := false, laid := [("errors.errorType", laid_errors_errorType)], narrowed := true }
def DepotFillsUptoSaid : Prop := depotFillsUptoRow.holds Tryz.pinned (OpenSpec.upto depotFillsSpec)

/-- 'bulkheadlaw07.DepotMoves', WHERE WHAT IT READS IS OF BULK AT MOST 1048576: true; the input reads as it did. -/
def depotMovesUptoRow : OpenClaim := { program := "ytopjhgpgompenaagreatdoor", sum := "771b1b25b083c03529caea194b142ea42835489a9b89b1cb0bc447707edb4dd2", func := "bulkhead/bulkheadlaw07.DepotMoves", spec := "depotMoves", inPlace := ["internal/reflectlite.ValueOf", "(internal/reflectlite.Value).Type", "(internal/reflectlite.Value).IsNil", "internal/reflectlite.TypeOf", "(internal/reflectlite.Value).Elem", "(internal/reflectlite.Value).Set"], unfollowed := true, recurses := true, named := ["errors.errorType"], apart := false, laid := [("errors.errorType", laid_errors_errorType)], narrowed := true }
def DepotMovesUptoSaid : Prop := depotMovesUptoRow.holds Tryz.pinned (OpenSpec.upto depotMovesSpec)

/-- 'bulkheadlaw07.DepotUndone', WHERE WHAT IT READS IS OF BULK AT MOST 1048576: true; the input reads as it did. -/
def depotUndoneUptoRow : OpenClaim := { program := "ytopjhgpgompenaagreatdoor", sum := "771b1b25b083c03529caea194b142ea42835489a9b89b1cb0bc447707edb4dd2", func := "bulkhead/bulkheadlaw07.DepotUndone", spec := "depotUndone", inPlace := ["internal/reflectlite.ValueOf", "(internal/reflectlite.Value).Type", "(internal/reflectlite.Value).IsNil", "internal/reflectlite.TypeOf", "(internal/reflectlite.Value).Elem", "(internal/reflectlite.Value).Set"], unfollowed := true, recurses := true, named := ["errors.errorType"], apart := false, laid := [("errors.errorType", laid_errors_errorType)], narrowed := true }
def DepotUndoneUptoSaid : Prop := depotUndoneUptoRow.holds Tryz.pinned (OpenSpec.upto depotUndoneSpec)

/-- 'bulkheadlaw07.DepotRuns', WHERE WHAT IT READS IS OF BULK AT MOST 1048576: true; the input reads as it did. -/
def depotRunsUptoRow : OpenClaim := { program := "ytopjhgpgompenaagreatdoor", sum := "771b1b25b083c03529caea194b142ea42835489a9b89b1cb0bc447707edb4dd2", func := "bulkhead/bulkheadlaw07.DepotRuns", spec := "depotRuns", inPlace := ["internal/reflectlite.ValueOf", "(internal/reflectlite.Value).Type", "(internal/reflectlite.Value).IsNil", "internal/reflectlite.TypeOf", "(internal/reflectlite.Value).Elem", "(internal/reflectlite.Value).Set"], unfollowed := true, recurses := true, named := ["errors.errorType"], apart := false, laid := [("errors.errorType", laid_errors_errorType)], narrowed := true }
def DepotRunsUptoSaid : Prop := depotRunsUptoRow.holds Tryz.pinned (OpenSpec.upto depotRunsSpec)

/-- 'bulkheadlaw08.PrintsNone', WHERE WHAT IT READS IS OF BULK AT MOST 1048576: true; the input reads as it did. -/
def printsNoneUptoRow : OpenClaim := { program := "ytopjhgpgompenaagreatdoor", sum := "771b1b25b083c03529caea194b142ea42835489a9b89b1cb0bc447707edb4dd2", func := "bulkhead/bulkheadlaw08.PrintsNone", spec := "printsNone", inPlace := ["internal/reflectlite.ValueOf", "(internal/reflectlite.Value).Type", "(internal/reflectlite.Value).IsNil", "internal/reflectlite.TypeOf", "(internal/reflectlite.Value).Elem", "(internal/reflectlite.Value).Set"], unfollowed := true, recurses := true, named := ["errors.errorType"], apart := false, laid := [("errors.errorType", laid_errors_errorType)], narrowed := true }
def PrintsNoneUptoSaid : Prop := printsNoneUptoRow.holds Tryz.pinned (OpenSpec.upto printsNoneSpec)

/-- 'bulkheadlaw08.PrintsFills', WHERE WHAT IT READS IS OF BULK AT MOST 1048576: true; the input reads as it did. -/
def printsFillsUptoRow : OpenClaim := { program := "ytopjhgpgompenaagreatdoor", sum := "771b1b25b083c03529caea194b142ea42835489a9b89b1cb0bc447707edb4dd2", func := "bulkhead/bulkheadlaw08.PrintsFills", spec := "printsFills", inPlace := ["internal/reflectlite.ValueOf", "(internal/reflectlite.Value).Type", "(internal/reflectlite.Value).IsNil", "internal/reflectlite.TypeOf", "(internal/reflectlite.Value).Elem", "(internal/reflectlite.Value).Set"], unfollowed := true, recurses := true, named := ["errors.errorType"], apart := false, laid := [("errors.errorType", laid_errors_errorType)], narrowed := true }
def PrintsFillsUptoSaid : Prop := printsFillsUptoRow.holds Tryz.pinned (OpenSpec.upto printsFillsSpec)

/-- 'bulkheadlaw08.PrintsGoes', WHERE WHAT IT READS IS OF BULK AT MOST 1048576: true; the input reads as it did. -/
def printsGoesUptoRow : OpenClaim := { program := "ytopjhgpgompenaagreatdoor", sum := "771b1b25b083c03529caea194b142ea42835489a9b89b1cb0bc447707edb4dd2", func := "bulkhead/bulkheadlaw08.PrintsGoes", spec := "printsGoes", inPlace := ["internal/reflectlite.ValueOf", "(internal/reflectlite.Value).Type", "(internal/reflectlite.Value).IsNil", "internal/reflectlite.TypeOf", "(internal/reflectlite.Value).Elem", "(internal/reflectlite.Value).Set"], unfollowed := true, recurses := true, named := ["errors.errorType"], apart := false, laid := [("errors.errorType", laid_errors_errorType)], narrowed := true }
def PrintsGoesUptoSaid : Prop := printsGoesUptoRow.holds Tryz.pinned (OpenSpec.upto printsGoesSpec)

/-- 'bulkheadlaw08.PrintsRuns', WHERE WHAT IT READS IS OF BULK AT MOST 1048576: true; the input reads as it did. -/
def printsRunsUptoRow : OpenClaim := { program := "ytopjhgpgompenaagreatdoor", sum := "771b1b25b083c03529caea194b142ea42835489a9b89b1cb0bc447707edb4dd2", func := "bulkhead/bulkheadlaw08.PrintsRuns", spec := "printsRuns", inPlace := ["internal/reflectlite.ValueOf", "(internal/reflectlite.Value).Type", "(internal/reflectlite.Value).IsNil", "internal/reflectlite.TypeOf", "(internal/reflectlite.Value).Elem", "(internal/reflectlite.Value).Set"], unfollowed := true, recurses := true, named := ["errors.errorType"], apart := false, laid := [("errors.errorType", laid_errors_errorType)], narrowed := true }
def PrintsRunsUptoSaid : Prop := printsRunsUptoRow.holds Tryz.pinned (OpenSpec.upto printsRunsSpec)

/-- 'bulkheadlaw08.PrintsUndone', WHERE WHAT IT READS IS OF BULK AT MOST 1048576: true; the input reads as it did. -/
def printsUndoneUptoRow : OpenClaim := { program := "ytopjhgpgompenaagreatdoor", sum := "771b1b25b083c03529caea194b142ea42835489a9b89b1cb0bc447707edb4dd2", func := "bulkhead/bulkheadlaw08.PrintsUndone", spec := "printsUndone", inPlace := ["internal/reflectlite.ValueOf", "(internal/reflectlite.Value).Type", "(internal/reflectlite.Value).IsNil", "internal/reflectlite.TypeOf", "(internal/reflectlite.Value).Elem", "(internal/reflectlite.Value).Set"], unfollowed := true, recurses := true, named := ["errors.errorType"], apart := false, laid := [("errors.errorType", laid_errors_errorType)], narrowed := true }
def PrintsUndoneUptoSaid : Prop := printsUndoneUptoRow.holds Tryz.pinned (OpenSpec.upto printsUndoneSpec)

end Rows
end Go.Proofs.YtopjhgpgompenaaGreatDoor
