/-
  NARROWER THAN 'FOR EVERY INPUT', by the rows' own cells (each row's printed sentence says how): RadixRuns: laid · RadixEmpties: laid · RadixApart: laid · RadixUndone: laid · RadixNone: laid · RadixFull: laid · DepotCounts: laid · DepotFills: laid · DepotNone: laid · DepotMoves: laid.
  DERIVED. THE GIVEN ROWS OF THIS SEAT. 10 by the template 'for every input the law returns true; each argument reads behind the call as it read before'; 0 by the template 'total and deterministic' (their statements: YtfagnbjjffjcbaaGreatDoorTotals.lean).
  GIVEN WITH THE SEED: the statements are not yours to turn. If you find one false, say at which input.
  Laid BY PROGRAM, IN A SANDBOX (cutbox-rows.mjs): the forced cells as the released guide's own fill.sh prints them over the translation 2651a4246f6f5128… (all of the seat's roots in one cut). By AI agents, Wed Nov 11 2026. No macro, syntax, notation, axiom, sorry.
-/
import Derived.Test.YtfagnbjjffjcbaaGreatDoorChecked
import GoSem.Claim
import GoSem.ClaimJoined
import GoSem.ClaimMapViews
import Derived.JoinedTies
import Derived.KernelRfl
namespace Go.Proofs.YtfagnbjjffjcbaaGreatDoor
/- THE CELL 'sum', in the pinned program and in every row, IS THE sha256 OF THE DUMP (.gsa) THAT YtfagnbjjffjcbaaGreatDoorProg.lean LOADS. Nothing in Lean hashes anything: it is a label: what it is worth is what the hold of that sum in a sandbox is worth. -/
noncomputable def Tryz.pinned : Pinned := { name := "ytfagnbjjffjcbaagreatdoor", sum := "2651a4246f6f5128d654125fa82293cc7364c83d303b6ce3be156aeed73ed0c1", checked := Tryz.checked }
namespace Rows
def none {H : Type} : Left H := { results := [], args := [] }

/- WHAT THE LISTED PACKAGE-LEVEL VARIABLES READ AS WHEN THE CALL BEGINS. Each datum BY PROGRAM (the guide's laid-datum.mjs) off the statement by which the dump's own 'gosem.cut.vars' lays the variable. In a bare row this is a premise. The card (YtfagnbjjffjcbaaGreatDoorCards.lean) ties it to the program's text. -/
def laid_errors_errorType {H : Type} : DataW H := .iface "internal/reflectlite.rtype" (.agg [.ptr (.lit (.string [101, 114, 114, 111, 114]))])

/-- 'bulkheadlaw09.RadixRuns': WHATEVER THE INPUT: true; the input reads as it did. -/
def radixRunsSpec : ChangeSpec := { name := "radixRuns", fn := fun _ => fun
  | [d1, d2] => { results := [.lit (.bool true)], args := [d1, d2] }
  | _ => none }
def radixRunsRow : OpenClaim := { program := "ytfagnbjjffjcbaagreatdoor", sum := "2651a4246f6f5128d654125fa82293cc7364c83d303b6ce3be156aeed73ed0c1", func := "bulkhead/bulkheadlaw09.RadixRuns", spec := "radixRuns", inPlace := ["internal/reflectlite.ValueOf", "(internal/reflectlite.Value).Type", "(internal/reflectlite.Value).IsNil", "internal/reflectlite.TypeOf", "(internal/reflectlite.Value).Elem", "(internal/reflectlite.Value).Set"], unfollowed := true, recurses := true, named := ["errors.errorType"], plainKeys := false, apart := false, laid := [("errors.errorType", laid_errors_errorType)] }
def RadixRunsSaid : Prop := radixRunsRow.holds Tryz.pinned (OpenSpec.ofChange radixRunsSpec)

/-- ITS FALSE NEIGHBOUR: 'it returns false'. Refute it at one input. -/
def radixRunsWrong : ChangeSpec := { name := "radixRuns", fn := fun _ => fun
  | [d1, d2] => { results := [.lit (.bool false)], args := [d1, d2] }
  | _ => none }
def RadixRunsWrongFalsely : Prop := radixRunsRow.holds Tryz.pinned (OpenSpec.ofChange radixRunsWrong)

/-- 'bulkheadlaw09.RadixEmpties': WHATEVER THE INPUT: true; the input reads as it did. -/
def radixEmptiesSpec : ChangeSpec := { name := "radixEmpties", fn := fun _ => fun
  | [d] => { results := [.lit (.bool true)], args := [d] }
  | _ => none }
def radixEmptiesRow : OpenClaim := { program := "ytfagnbjjffjcbaagreatdoor", sum := "2651a4246f6f5128d654125fa82293cc7364c83d303b6ce3be156aeed73ed0c1", func := "bulkhead/bulkheadlaw09.RadixEmpties", spec := "radixEmpties", inPlace := ["internal/reflectlite.ValueOf", "(internal/reflectlite.Value).Type", "(internal/reflectlite.Value).IsNil", "internal/reflectlite.TypeOf", "(internal/reflectlite.Value).Elem", "(internal/reflectlite.Value).Set"], unfollowed := true, recurses := true, named := ["errors.errorType"], plainKeys := false, apart := false, laid := [("errors.errorType", laid_errors_errorType)] }
def RadixEmptiesSaid : Prop := radixEmptiesRow.holds Tryz.pinned (OpenSpec.ofChange radixEmptiesSpec)

/-- ITS FALSE NEIGHBOUR: 'it returns false'. Refute it at one input. -/
def radixEmptiesWrong : ChangeSpec := { name := "radixEmpties", fn := fun _ => fun
  | [d] => { results := [.lit (.bool false)], args := [d] }
  | _ => none }
def RadixEmptiesWrongFalsely : Prop := radixEmptiesRow.holds Tryz.pinned (OpenSpec.ofChange radixEmptiesWrong)

/-- 'bulkheadlaw09.RadixApart': WHATEVER THE INPUT: true; the input reads as it did. -/
def radixApartSpec : ChangeSpec := { name := "radixApart", fn := fun _ => fun
  | [d1, d2, d3] => { results := [.lit (.bool true)], args := [d1, d2, d3] }
  | _ => none }
def radixApartRow : OpenClaim := { program := "ytfagnbjjffjcbaagreatdoor", sum := "2651a4246f6f5128d654125fa82293cc7364c83d303b6ce3be156aeed73ed0c1", func := "bulkhead/bulkheadlaw09.RadixApart", spec := "radixApart", inPlace := ["internal/reflectlite.ValueOf", "(internal/reflectlite.Value).Type", "(internal/reflectlite.Value).IsNil", "internal/reflectlite.TypeOf", "(internal/reflectlite.Value).Elem", "(internal/reflectlite.Value).Set"], unfollowed := true, recurses := true, named := ["errors.errorType"], plainKeys := false, apart := false, laid := [("errors.errorType", laid_errors_errorType)] }
def RadixApartSaid : Prop := radixApartRow.holds Tryz.pinned (OpenSpec.ofChange radixApartSpec)

/-- ITS FALSE NEIGHBOUR: 'it returns false'. Refute it at one input. -/
def radixApartWrong : ChangeSpec := { name := "radixApart", fn := fun _ => fun
  | [d1, d2, d3] => { results := [.lit (.bool false)], args := [d1, d2, d3] }
  | _ => none }
def RadixApartWrongFalsely : Prop := radixApartRow.holds Tryz.pinned (OpenSpec.ofChange radixApartWrong)

/-- 'bulkheadlaw09.RadixUndone': WHATEVER THE INPUT: true; the input reads as it did. -/
def radixUndoneSpec : ChangeSpec := { name := "radixUndone", fn := fun _ => fun
  | [d1, d2] => { results := [.lit (.bool true)], args := [d1, d2] }
  | _ => none }
def radixUndoneRow : OpenClaim := { program := "ytfagnbjjffjcbaagreatdoor", sum := "2651a4246f6f5128d654125fa82293cc7364c83d303b6ce3be156aeed73ed0c1", func := "bulkhead/bulkheadlaw09.RadixUndone", spec := "radixUndone", inPlace := ["internal/reflectlite.ValueOf", "(internal/reflectlite.Value).Type", "(internal/reflectlite.Value).IsNil", "internal/reflectlite.TypeOf", "(internal/reflectlite.Value).Elem", "(internal/reflectlite.Value).Set"], unfollowed := true, recurses := true, named := ["errors.errorType"], plainKeys := false, apart := false, laid := [("errors.errorType", laid_errors_errorType)] }
def RadixUndoneSaid : Prop := radixUndoneRow.holds Tryz.pinned (OpenSpec.ofChange radixUndoneSpec)

/-- ITS FALSE NEIGHBOUR: 'it returns false'. Refute it at one input. -/
def radixUndoneWrong : ChangeSpec := { name := "radixUndone", fn := fun _ => fun
  | [d1, d2] => { results := [.lit (.bool false)], args := [d1, d2] }
  | _ => none }
def RadixUndoneWrongFalsely : Prop := radixUndoneRow.holds Tryz.pinned (OpenSpec.ofChange radixUndoneWrong)

/-- 'bulkheadlaw09.RadixNone': WHATEVER THE INPUT: true; the input reads as it did. -/
def radixNoneSpec : ChangeSpec := { name := "radixNone", fn := fun _ => fun
  | [d1, d2, d3] => { results := [.lit (.bool true)], args := [d1, d2, d3] }
  | _ => none }
def radixNoneRow : OpenClaim := { program := "ytfagnbjjffjcbaagreatdoor", sum := "2651a4246f6f5128d654125fa82293cc7364c83d303b6ce3be156aeed73ed0c1", func := "bulkhead/bulkheadlaw09.RadixNone", spec := "radixNone", inPlace := ["internal/reflectlite.ValueOf", "(internal/reflectlite.Value).Type", "(internal/reflectlite.Value).IsNil", "internal/reflectlite.TypeOf", "(internal/reflectlite.Value).Elem", "(internal/reflectlite.Value).Set"], unfollowed := true, recurses := true, named := ["errors.errorType"], plainKeys := false, apart := false, laid := [("errors.errorType", laid_errors_errorType)] }
def RadixNoneSaid : Prop := radixNoneRow.holds Tryz.pinned (OpenSpec.ofChange radixNoneSpec)

/-- ITS FALSE NEIGHBOUR: 'it returns false'. Refute it at one input. -/
def radixNoneWrong : ChangeSpec := { name := "radixNone", fn := fun _ => fun
  | [d1, d2, d3] => { results := [.lit (.bool false)], args := [d1, d2, d3] }
  | _ => none }
def RadixNoneWrongFalsely : Prop := radixNoneRow.holds Tryz.pinned (OpenSpec.ofChange radixNoneWrong)

/-- 'bulkheadlaw09.RadixFull': WHATEVER THE INPUT: true; the input reads as it did. -/
def radixFullSpec : ChangeSpec := { name := "radixFull", fn := fun _ => fun
  | [d1, d2, d3] => { results := [.lit (.bool true)], args := [d1, d2, d3] }
  | _ => none }
def radixFullRow : OpenClaim := { program := "ytfagnbjjffjcbaagreatdoor", sum := "2651a4246f6f5128d654125fa82293cc7364c83d303b6ce3be156aeed73ed0c1", func := "bulkhead/bulkheadlaw09.RadixFull", spec := "radixFull", inPlace := ["internal/reflectlite.ValueOf", "(internal/reflectlite.Value).Type", "(internal/reflectlite.Value).IsNil", "internal/reflectlite.TypeOf", "(internal/reflectlite.Value).Elem", "(internal/reflectlite.Value).Set"], unfollowed := true, recurses := true, named := ["errors.errorType"], plainKeys := false, apart := false, laid := [("errors.errorType", laid_errors_errorType)] }
def RadixFullSaid : Prop := radixFullRow.holds Tryz.pinned (OpenSpec.ofChange radixFullSpec)

/-- ITS FALSE NEIGHBOUR: 'it returns false'. Refute it at one input. -/
def radixFullWrong : ChangeSpec := { name := "radixFull", fn := fun _ => fun
  | [d1, d2, d3] => { results := [.lit (.bool false)], args := [d1, d2, d3] }
  | _ => none }
def RadixFullWrongFalsely : Prop := radixFullRow.holds Tryz.pinned (OpenSpec.ofChange radixFullWrong)

/-- 'bulkheadlaw07.DepotCounts': WHATEVER THE INPUT: true; the input reads as it did. -/
def depotCountsSpec : ChangeSpec := { name := "depotCounts", fn := fun _ => fun
  | [d] => { results := [.lit (.bool true)], args := [d] }
  | _ => none }
def depotCountsRow : OpenClaim := { program := "ytfagnbjjffjcbaagreatdoor", sum := "2651a4246f6f5128d654125fa82293cc7364c83d303b6ce3be156aeed73ed0c1", func := "bulkhead/bulkheadlaw07.DepotCounts", spec := "depotCounts", inPlace := ["internal/reflectlite.ValueOf", "(internal/reflectlite.Value).Type", "(internal/reflectlite.Value).IsNil", "internal/reflectlite.TypeOf", "(internal/reflectlite.Value).Elem", "(internal/reflectlite.Value).Set"], unfollowed := true, recurses := true, named := ["errors.errorType"], plainKeys := false, apart := false, laid := [("errors.errorType", laid_errors_errorType)] }
def DepotCountsSaid : Prop := depotCountsRow.holds Tryz.pinned (OpenSpec.ofChange depotCountsSpec)

/-- ITS FALSE NEIGHBOUR: 'it returns false'. Refute it at one input. -/
def depotCountsWrong : ChangeSpec := { name := "depotCounts", fn := fun _ => fun
  | [d] => { results := [.lit (.bool false)], args := [d] }
  | _ => none }
def DepotCountsWrongFalsely : Prop := depotCountsRow.holds Tryz.pinned (OpenSpec.ofChange depotCountsWrong)

/-- 'bulkheadlaw07.DepotFills': WHATEVER THE INPUT: true; the input reads as it did. -/
def depotFillsSpec : ChangeSpec := { name := "depotFills", fn := fun _ => fun
  | [d1, d2] => { results := [.lit (.bool true)], args := [d1, d2] }
  | _ => none }
def depotFillsRow : OpenClaim := { program := "ytfagnbjjffjcbaagreatdoor", sum := "2651a4246f6f5128d654125fa82293cc7364c83d303b6ce3be156aeed73ed0c1", func := "bulkhead/bulkheadlaw07.DepotFills", spec := "depotFills", inPlace := ["internal/reflectlite.ValueOf", "(internal/reflectlite.Value).Type", "(internal/reflectlite.Value).IsNil", "internal/reflectlite.TypeOf", "(internal/reflectlite.Value).Elem", "(internal/reflectlite.Value).Set"], unfollowed := true, recurses := true, named := ["errors.errorType"], plainKeys := false, apart := false, laid := [("errors.errorType", laid_errors_errorType)] }
def DepotFillsSaid : Prop := depotFillsRow.holds Tryz.pinned (OpenSpec.ofChange depotFillsSpec)

/-- ITS FALSE NEIGHBOUR: 'it returns false'. Refute it at one input. -/
def depotFillsWrong : ChangeSpec := { name := "depotFills", fn := fun _ => fun
  | [d1, d2] => { results := [.lit (.bool false)], args := [d1, d2] }
  | _ => none }
def DepotFillsWrongFalsely : Prop := depotFillsRow.holds Tryz.pinned (OpenSpec.ofChange depotFillsWrong)

/-- 'bulkheadlaw07.DepotNone': WHATEVER THE INPUT: true; the input reads as it did. -/
def depotNoneSpec : ChangeSpec := { name := "depotNone", fn := fun _ => fun
  | [d1, d2, d3] => { results := [.lit (.bool true)], args := [d1, d2, d3] }
  | _ => none }
def depotNoneRow : OpenClaim := { program := "ytfagnbjjffjcbaagreatdoor", sum := "2651a4246f6f5128d654125fa82293cc7364c83d303b6ce3be156aeed73ed0c1", func := "bulkhead/bulkheadlaw07.DepotNone", spec := "depotNone", inPlace := ["internal/reflectlite.ValueOf", "(internal/reflectlite.Value).Type", "(internal/reflectlite.Value).IsNil", "internal/reflectlite.TypeOf", "(internal/reflectlite.Value).Elem", "(internal/reflectlite.Value).Set"], unfollowed := true, recurses := true, named := ["errors.errorType"], plainKeys := false, apart := false, laid := [("errors.errorType", laid_errors_errorType)] }
def DepotNoneSaid : Prop := depotNoneRow.holds Tryz.pinned (OpenSpec.ofChange depotNoneSpec)

/-- ITS FALSE NEIGHBOUR: 'it returns false'. Refute it at one input. -/
def depotNoneWrong : ChangeSpec := { name := "depotNone", fn := fun _ => fun
  | [d1, d2, d3] => { results := [.lit (.bool false)], args := [d1, d2, d3] }
  | _ => none }
def DepotNoneWrongFalsely : Prop := depotNoneRow.holds Tryz.pinned (OpenSpec.ofChange depotNoneWrong)

/-- 'bulkheadlaw07.DepotMoves': WHATEVER THE INPUT: true; the input reads as it did. -/
def depotMovesSpec : ChangeSpec := { name := "depotMoves", fn := fun _ => fun
  | [d1, d2] => { results := [.lit (.bool true)], args := [d1, d2] }
  | _ => none }
def depotMovesRow : OpenClaim := { program := "ytfagnbjjffjcbaagreatdoor", sum := "2651a4246f6f5128d654125fa82293cc7364c83d303b6ce3be156aeed73ed0c1", func := "bulkhead/bulkheadlaw07.DepotMoves", spec := "depotMoves", inPlace := ["internal/reflectlite.ValueOf", "(internal/reflectlite.Value).Type", "(internal/reflectlite.Value).IsNil", "internal/reflectlite.TypeOf", "(internal/reflectlite.Value).Elem", "(internal/reflectlite.Value).Set"], unfollowed := true, recurses := true, named := ["errors.errorType"], plainKeys := false, apart := false, laid := [("errors.errorType", laid_errors_errorType)] }
def DepotMovesSaid : Prop := depotMovesRow.holds Tryz.pinned (OpenSpec.ofChange depotMovesSpec)

/-- ITS FALSE NEIGHBOUR: 'it returns false'. Refute it at one input. -/
def depotMovesWrong : ChangeSpec := { name := "depotMoves", fn := fun _ => fun
  | [d1, d2] => { results := [.lit (.bool false)], args := [d1, d2] }
  | _ => none }
def DepotMovesWrongFalsely : Prop := depotMovesRow.holds Tryz.pinned (OpenSpec.ofChange depotMovesWrong)

/- THE SECOND FORM. 'bulk': how many values and letters a reading holds, each counted each time it is reached (what is shared counts as often as it is met; a slice's spare places count too). A statement '..UptoSaid' is the law's where the arguments, and the package variables that the reading takes, are together of bulk at most 1048576: NARROWER than '..Said'. Prove '..Said' where nothing that the law and all that it calls make is longer than what came in: it says more and counts as full. Else prove '..UptoSaid'. A law counts once. -/
mutual
def uptoBulk {H : Type} : DataW H → Nat
  | .lit (.string bytes) => bytes.length + 1
  | .lit _ => 1
  | .nil => 1
  | .ptr d => uptoBulk d + 1
  | .slice elems spare => uptoBulkAll elems + uptoBulkAll spare + 1
  | .agg parts => uptoBulkAll parts + 1
  | .iface _ d => uptoBulk d + 1
  | .map entries => uptoBulkEntries entries + 1
  | .held _ => 1
def uptoBulkAll {H : Type} : List (DataW H) → Nat
  | [] => 0
  | d :: r => uptoBulk d + uptoBulkAll r
def uptoBulkEntries {H : Type} : List (Lit × DataW H) → Nat
  | [] => 0
  | x :: r => uptoBulkEntry x + uptoBulkEntries r
def uptoBulkEntry {H : Type} : Lit × DataW H → Nat
  | (.string bytes, d) => bytes.length + uptoBulk d + 1
  | (_, d) => uptoBulk d + 1
 end
def uptoSmall : (H : Type) → List (DataW H) → Bool := fun _ ds => decide (uptoBulkAll ds ≤ 1048576)
def OpenSpec.upto (s : _root_.Go.ChangeSpec) : _root_.Go.OpenSpec := { _root_.Go.OpenSpec.ofChange s with cond := some uptoSmall }

/-- 'bulkheadlaw09.RadixRuns', WHERE WHAT IT READS IS OF BULK AT MOST 1048576: true; the input reads as it did. -/
def radixRunsUptoRow : OpenClaim := { program := "ytfagnbjjffjcbaagreatdoor", sum := "2651a4246f6f5128d654125fa82293cc7364c83d303b6ce3be156aeed73ed0c1", func := "bulkhead/bulkheadlaw09.RadixRuns", spec := "radixRuns", inPlace := ["internal/reflectlite.ValueOf", "(internal/reflectlite.Value).Type", "(internal/reflectlite.Value).IsNil", "internal/reflectlite.TypeOf", "(internal/reflectlite.Value).Elem", "(internal/reflectlite.Value).Set"], unfollowed := true, recurses := true, named := ["errors.errorType"], plainKeys := false, apart := false, laid := [("errors.errorType", laid_errors_errorType)], narrowed := true }
def RadixRunsUptoSaid : Prop := radixRunsUptoRow.holds Tryz.pinned (OpenSpec.upto radixRunsSpec)

/-- 'bulkheadlaw09.RadixEmpties', WHERE WHAT IT READS IS OF BULK AT MOST 1048576: true; the input reads as it did. -/
def radixEmptiesUptoRow : OpenClaim := { program := "ytfagnbjjffjcbaagreatdoor", sum := "2651a4246f6f5128d654125fa82293cc7364c83d303b6ce3be156aeed73ed0c1", func := "bulkhead/bulkheadlaw09.RadixEmpties", spec := "radixEmpties", inPlace := ["internal/reflectlite.ValueOf", "(internal/reflectlite.Value).Type", "(internal/reflectlite.Value).IsNil", "internal/reflectlite.TypeOf", "(internal/reflectlite.Value).Elem", "(internal/reflectlite.Value).Set"], unfollowed := true, recurses := true, named := ["errors.errorType"], plainKeys := false, apart := false, laid := [("errors.errorType", laid_errors_errorType)], narrowed := true }
def RadixEmptiesUptoSaid : Prop := radixEmptiesUptoRow.holds Tryz.pinned (OpenSpec.upto radixEmptiesSpec)

/-- 'bulkheadlaw09.RadixApart', WHERE WHAT IT READS IS OF BULK AT MOST 1048576: true; the input reads as it did. -/
def radixApartUptoRow : OpenClaim := { program := "ytfagnbjjffjcbaagreatdoor", sum := "2651a4246f6f5128d654125fa82293cc7364c83d303b6ce3be156aeed73ed0c1", func := "bulkhead/bulkheadlaw09.RadixApart", spec := "radixApart", inPlace := ["internal/reflectlite.ValueOf", "(internal/reflectlite.Value).Type", "(internal/reflectlite.Value).IsNil", "internal/reflectlite.TypeOf", "(internal/reflectlite.Value).Elem", "(internal/reflectlite.Value).Set"], unfollowed := true, recurses := true, named := ["errors.errorType"], plainKeys := false, apart := false, laid := [("errors.errorType", laid_errors_errorType)], narrowed := true }
def RadixApartUptoSaid : Prop := radixApartUptoRow.holds Tryz.pinned (OpenSpec.upto radixApartSpec)

/-- 'bulkheadlaw09.RadixUndone', WHERE WHAT IT READS IS OF BULK AT MOST 1048576: true; the input reads as it did. -/
def radixUndoneUptoRow : OpenClaim := { program := "ytfagnbjjffjcbaagreatdoor", sum := "2651a4246f6f5128d654125fa82293cc7364c83d303b6ce3be156aeed73ed0c1", func := "bulkhead/bulkheadlaw09.RadixUndone", spec := "radixUndone", inPlace := ["internal/reflectlite.ValueOf", "(internal/reflectlite.Value).Type", "(internal/reflectlite.Value).IsNil", "internal/reflectlite.TypeOf", "(internal/reflectlite.Value).Elem", "(internal/reflectlite.Value).Set"], unfollowed := true, recurses := true, named := ["errors.errorType"], plainKeys := false, apart := false, laid := [("errors.errorType", laid_errors_errorType)], narrowed := true }
def RadixUndoneUptoSaid : Prop := radixUndoneUptoRow.holds Tryz.pinned (OpenSpec.upto radixUndoneSpec)

/-- 'bulkheadlaw09.RadixNone', WHERE WHAT IT READS IS OF BULK AT MOST 1048576: true; the input reads as it did. -/
def radixNoneUptoRow : OpenClaim := { program := "ytfagnbjjffjcbaagreatdoor", sum := "2651a4246f6f5128d654125fa82293cc7364c83d303b6ce3be156aeed73ed0c1", func := "bulkhead/bulkheadlaw09.RadixNone", spec := "radixNone", inPlace := ["internal/reflectlite.ValueOf", "(internal/reflectlite.Value).Type", "(internal/reflectlite.Value).IsNil", "internal/reflectlite.TypeOf", "(internal/reflectlite.Value).Elem", "(internal/reflectlite.Value).Set"], unfollowed := true, recurses := true, named := ["errors.errorType"], plainKeys := false, apart := false, laid := [("errors.errorType", laid_errors_errorType)], narrowed := true }
def RadixNoneUptoSaid : Prop := radixNoneUptoRow.holds Tryz.pinned (OpenSpec.upto radixNoneSpec)

/-- 'bulkheadlaw09.RadixFull', WHERE WHAT IT READS IS OF BULK AT MOST 1048576: true; the input reads as it did. -/
def radixFullUptoRow : OpenClaim := { program := "ytfagnbjjffjcbaagreatdoor", sum := "2651a4246f6f5128d654125fa82293cc7364c83d303b6ce3be156aeed73ed0c1", func := "bulkhead/bulkheadlaw09.RadixFull", spec := "radixFull", inPlace := ["internal/reflectlite.ValueOf", "(internal/reflectlite.Value).Type", "(internal/reflectlite.Value).IsNil", "internal/reflectlite.TypeOf", "(internal/reflectlite.Value).Elem", "(internal/reflectlite.Value).Set"], unfollowed := true, recurses := true, named := ["errors.errorType"], plainKeys := false, apart := false, laid := [("errors.errorType", laid_errors_errorType)], narrowed := true }
def RadixFullUptoSaid : Prop := radixFullUptoRow.holds Tryz.pinned (OpenSpec.upto radixFullSpec)

/-- 'bulkheadlaw07.DepotCounts', WHERE WHAT IT READS IS OF BULK AT MOST 1048576: true; the input reads as it did. -/
def depotCountsUptoRow : OpenClaim := { program := "ytfagnbjjffjcbaagreatdoor", sum := "2651a4246f6f5128d654125fa82293cc7364c83d303b6ce3be156aeed73ed0c1", func := "bulkhead/bulkheadlaw07.DepotCounts", spec := "depotCounts", inPlace := ["internal/reflectlite.ValueOf", "(internal/reflectlite.Value).Type", "(internal/reflectlite.Value).IsNil", "internal/reflectlite.TypeOf", "(internal/reflectlite.Value).Elem", "(internal/reflectlite.Value).Set"], unfollowed := true, recurses := true, named := ["errors.errorType"], plainKeys := false, apart := false, laid := [("errors.errorType", laid_errors_errorType)], narrowed := true }
def DepotCountsUptoSaid : Prop := depotCountsUptoRow.holds Tryz.pinned (OpenSpec.upto depotCountsSpec)

/-- 'bulkheadlaw07.DepotFills', WHERE WHAT IT READS IS OF BULK AT MOST 1048576: true; the input reads as it did. -/
def depotFillsUptoRow : OpenClaim := { program := "ytfagnbjjffjcbaagreatdoor", sum := "2651a4246f6f5128d654125fa82293cc7364c83d303b6ce3be156aeed73ed0c1", func := "bulkhead/bulkheadlaw07.DepotFills", spec := "depotFills", inPlace := ["internal/reflectlite.ValueOf", "(internal/reflectlite.Value).Type", "(internal/reflectlite.Value).IsNil", "internal/reflectlite.TypeOf", "(internal/reflectlite.Value).Elem", "(internal/reflectlite.Value).Set"], unfollowed := true, recurses := true, named := ["errors.errorType"], plainKeys := false, apart := false, laid := [("errors.errorType", laid_errors_errorType)], narrowed := true }
def DepotFillsUptoSaid : Prop := depotFillsUptoRow.holds Tryz.pinned (OpenSpec.upto depotFillsSpec)

/-- 'bulkheadlaw07.DepotNone', WHERE WHAT IT READS IS OF BULK AT MOST 1048576: true; the input reads as it did. -/
def depotNoneUptoRow : OpenClaim := { program := "ytfagnbjjffjcbaagreatdoor", sum := "2651a4246f6f5128d654125fa82293cc7364c83d303b6ce3be156aeed73ed0c1", func := "bulkhead/bulkheadlaw07.DepotNone", spec := "depotNone", inPlace := ["internal/reflectlite.ValueOf", "(internal/reflectlite.Value).Type", "(internal/reflectlite.Value).IsNil", "internal/reflectlite.TypeOf", "(internal/reflectlite.Value).Elem", "(internal/reflectlite.Value).Set"], unfollowed := true, recurses := true, named := ["errors.errorType"], plainKeys := false, apart := false, laid := [("errors.errorType", laid_errors_errorType)], narrowed := true }
def DepotNoneUptoSaid : Prop := depotNoneUptoRow.holds Tryz.pinned (OpenSpec.upto depotNoneSpec)

/-- 'bulkheadlaw07.DepotMoves', WHERE WHAT IT READS IS OF BULK AT MOST 1048576: true; the input reads as it did. -/
def depotMovesUptoRow : OpenClaim := { program := "ytfagnbjjffjcbaagreatdoor", sum := "2651a4246f6f5128d654125fa82293cc7364c83d303b6ce3be156aeed73ed0c1", func := "bulkhead/bulkheadlaw07.DepotMoves", spec := "depotMoves", inPlace := ["internal/reflectlite.ValueOf", "(internal/reflectlite.Value).Type", "(internal/reflectlite.Value).IsNil", "internal/reflectlite.TypeOf", "(internal/reflectlite.Value).Elem", "(internal/reflectlite.Value).Set"], unfollowed := true, recurses := true, named := ["errors.errorType"], plainKeys := false, apart := false, laid := [("errors.errorType", laid_errors_errorType)], narrowed := true }
def DepotMovesUptoSaid : Prop := depotMovesUptoRow.holds Tryz.pinned (OpenSpec.upto depotMovesSpec)

end Rows
end Go.Proofs.YtfagnbjjffjcbaaGreatDoor
