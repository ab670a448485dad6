/-
  No cell of these rows narrows 'for every input' (looked for: loops, veiled, ifaces, maps, wideKeys, modest, calm, conditions, laid).
  DERIVED. THE GIVEN ROWS OF THIS SEAT. 4 by the template 'for every input the law returns true; each argument reads behind the call as it read before'; 0 by the template 'total and deterministic' (their statements: YtehhhbehclpkbaaTotals.lean).
  GIVEN WITH THE SEED: the statements are not yours to turn. If you find one false, say at which input.
  Laid BY PROGRAM, IN A SANDBOX (cutbox-rows.mjs): the forced cells as the released guide's own fill.sh prints them over the translation c76d9f3ff873d90e… (all of the seat's roots in one cut). By AI agents, Wed Nov 11 2026. No macro, syntax, notation, axiom, sorry.
-/
import Derived.Test.YtehhhbehclpkbaaChecked
import GoSem.Claim
import GoSem.ClaimJoined
import GoSem.ClaimMapViews
import Derived.JoinedTies
import Derived.KernelRfl
namespace Go.Proofs.Ytehhhbehclpkbaa
/- THE CELL 'sum', in the pinned program and in every row, IS THE sha256 OF THE DUMP (.gsa) THAT YtehhhbehclpkbaaProg.lean LOADS. Nothing in Lean hashes anything: it is a label: what it is worth is what the hold of that sum in a sandbox is worth. -/
noncomputable def Try.pinned : Pinned := { name := "ytehhhbehclpkbaa", sum := "c76d9f3ff873d90eecd1d8d7ceaa09a9cc737a1acc5c3c7fd248976ea90058e4", checked := Try.checked }
namespace Rows
def none {H : Type} : Left H := { results := [], args := [] }

/-- 'bulkheadlaw12.CdbFits': WHATEVER THE INPUT: true; the input reads as it did. -/
def cdbFitsSpec : ChangeSpec := { name := "cdbFits", fn := fun _ => fun
  | [d1, d2, d3] => { results := [.lit (.bool true)], args := [d1, d2, d3] }
  | _ => none }
def cdbFitsRow : OpenClaim := { program := "ytehhhbehclpkbaa", sum := "c76d9f3ff873d90eecd1d8d7ceaa09a9cc737a1acc5c3c7fd248976ea90058e4", func := "bulkhead/bulkheadlaw12.CdbFits", spec := "cdbFits", apart := false }
def CdbFitsSaid : Prop := cdbFitsRow.holds Try.pinned (OpenSpec.ofChange cdbFitsSpec)

/-- ITS FALSE NEIGHBOUR: 'it returns false'. Refute it at one input. -/
def cdbFitsWrong : ChangeSpec := { name := "cdbFits", fn := fun _ => fun
  | [d1, d2, d3] => { results := [.lit (.bool false)], args := [d1, d2, d3] }
  | _ => none }
def CdbFitsWrongFalsely : Prop := cdbFitsRow.holds Try.pinned (OpenSpec.ofChange cdbFitsWrong)

/-- 'bulkheadlaw12.CdbForms': WHATEVER THE INPUT: true; the input reads as it did. -/
def cdbFormsSpec : ChangeSpec := { name := "cdbForms", fn := fun _ => fun
  | [d1, d2, d3] => { results := [.lit (.bool true)], args := [d1, d2, d3] }
  | _ => none }
def cdbFormsRow : OpenClaim := { program := "ytehhhbehclpkbaa", sum := "c76d9f3ff873d90eecd1d8d7ceaa09a9cc737a1acc5c3c7fd248976ea90058e4", func := "bulkhead/bulkheadlaw12.CdbForms", spec := "cdbForms", apart := false }
def CdbFormsSaid : Prop := cdbFormsRow.holds Try.pinned (OpenSpec.ofChange cdbFormsSpec)

/-- ITS FALSE NEIGHBOUR: 'it returns false'. Refute it at one input. -/
def cdbFormsWrong : ChangeSpec := { name := "cdbForms", fn := fun _ => fun
  | [d1, d2, d3] => { results := [.lit (.bool false)], args := [d1, d2, d3] }
  | _ => none }
def CdbFormsWrongFalsely : Prop := cdbFormsRow.holds Try.pinned (OpenSpec.ofChange cdbFormsWrong)

/-- 'bulkheadlaw12.CdbSpares': WHATEVER THE INPUT: true; the input reads as it did. -/
def cdbSparesSpec : ChangeSpec := { name := "cdbSpares", fn := fun _ => fun
  | [d1, d2] => { results := [.lit (.bool true)], args := [d1, d2] }
  | _ => none }
def cdbSparesRow : OpenClaim := { program := "ytehhhbehclpkbaa", sum := "c76d9f3ff873d90eecd1d8d7ceaa09a9cc737a1acc5c3c7fd248976ea90058e4", func := "bulkhead/bulkheadlaw12.CdbSpares", spec := "cdbSpares", apart := false }
def CdbSparesSaid : Prop := cdbSparesRow.holds Try.pinned (OpenSpec.ofChange cdbSparesSpec)

/-- ITS FALSE NEIGHBOUR: 'it returns false'. Refute it at one input. -/
def cdbSparesWrong : ChangeSpec := { name := "cdbSpares", fn := fun _ => fun
  | [d1, d2] => { results := [.lit (.bool false)], args := [d1, d2] }
  | _ => none }
def CdbSparesWrongFalsely : Prop := cdbSparesRow.holds Try.pinned (OpenSpec.ofChange cdbSparesWrong)

/-- 'bulkheadlaw12.CdbBounds': WHATEVER THE INPUT: true; the input reads as it did. -/
def cdbBoundsSpec : ChangeSpec := { name := "cdbBounds", fn := fun _ => fun
  | [d] => { results := [.lit (.bool true)], args := [d] }
  | _ => none }
def cdbBoundsRow : OpenClaim := { program := "ytehhhbehclpkbaa", sum := "c76d9f3ff873d90eecd1d8d7ceaa09a9cc737a1acc5c3c7fd248976ea90058e4", func := "bulkhead/bulkheadlaw12.CdbBounds", spec := "cdbBounds", apart := false }
def CdbBoundsSaid : Prop := cdbBoundsRow.holds Try.pinned (OpenSpec.ofChange cdbBoundsSpec)

/-- ITS FALSE NEIGHBOUR: 'it returns false'. Refute it at one input. -/
def cdbBoundsWrong : ChangeSpec := { name := "cdbBounds", fn := fun _ => fun
  | [d] => { results := [.lit (.bool false)], args := [d] }
  | _ => none }
def CdbBoundsWrongFalsely : Prop := cdbBoundsRow.holds Try.pinned (OpenSpec.ofChange cdbBoundsWrong)

/- THE SECOND FORM. 'bulk': how many values and letters a reading holds, each counted each time it is reached (what is shared counts as often as it is met; a slice's spare places count too). A statement '..UptoSaid' is the law's where the arguments, and the package variables that the reading takes, are together of bulk at most 1048576: NARROWER than '..Said'. Prove '..Said' where nothing that the law and all that it calls make is longer than what came in: it says more and counts as full. Else prove '..UptoSaid'. A law counts once. -/
mutual
def uptoBulk {H : Type} : DataW H → Nat
  | .lit (.string bytes) => bytes.length + 1
  | .lit _ => 1
  | .nil => 1
  | .ptr d => uptoBulk d + 1
  | .slice elems spare => uptoBulkAll elems + uptoBulkAll spare + 1
  | .agg parts => uptoBulkAll parts + 1
  | .iface _ d => uptoBulk d + 1
  | .map entries => uptoBulkEntries entries + 1
  | .held _ => 1
def uptoBulkAll {H : Type} : List (DataW H) → Nat
  | [] => 0
  | d :: r => uptoBulk d + uptoBulkAll r
def uptoBulkEntries {H : Type} : List (Lit × DataW H) → Nat
  | [] => 0
  | x :: r => uptoBulkEntry x + uptoBulkEntries r
def uptoBulkEntry {H : Type} : Lit × DataW H → Nat
  | (.string bytes, d) => bytes.length + uptoBulk d + 1
  | (_, d) => uptoBulk d + 1
 end
def uptoSmall : (H : Type) → List (DataW H) → Bool := fun _ ds => decide (uptoBulkAll ds ≤ 1048576)
def OpenSpec.upto (s : _root_.Go.ChangeSpec) : _root_.Go.OpenSpec := { _root_.Go.OpenSpec.ofChange s with cond := some uptoSmall }

/-- 'bulkheadlaw12.CdbFits', WHERE WHAT IT READS IS OF BULK AT MOST 1048576: true; the input reads as it did. -/
def cdbFitsUptoRow : OpenClaim := { program := "ytehhhbehclpkbaa", sum := "c76d9f3ff873d90eecd1d8d7ceaa09a9cc737a1acc5c3c7fd248976ea90058e4", func := "bulkhead/bulkheadlaw12.CdbFits", spec := "cdbFits", apart := false, narrowed := true }
def CdbFitsUptoSaid : Prop := cdbFitsUptoRow.holds Try.pinned (OpenSpec.upto cdbFitsSpec)

/-- 'bulkheadlaw12.CdbForms', WHERE WHAT IT READS IS OF BULK AT MOST 1048576: true; the input reads as it did. -/
def cdbFormsUptoRow : OpenClaim := { program := "ytehhhbehclpkbaa", sum := "c76d9f3ff873d90eecd1d8d7ceaa09a9cc737a1acc5c3c7fd248976ea90058e4", func := "bulkhead/bulkheadlaw12.CdbForms", spec := "cdbForms", apart := false, narrowed := true }
def CdbFormsUptoSaid : Prop := cdbFormsUptoRow.holds Try.pinned (OpenSpec.upto cdbFormsSpec)

/-- 'bulkheadlaw12.CdbSpares', WHERE WHAT IT READS IS OF BULK AT MOST 1048576: true; the input reads as it did. -/
def cdbSparesUptoRow : OpenClaim := { program := "ytehhhbehclpkbaa", sum := "c76d9f3ff873d90eecd1d8d7ceaa09a9cc737a1acc5c3c7fd248976ea90058e4", func := "bulkhead/bulkheadlaw12.CdbSpares", spec := "cdbSpares", apart := false, narrowed := true }
def CdbSparesUptoSaid : Prop := cdbSparesUptoRow.holds Try.pinned (OpenSpec.upto cdbSparesSpec)

/-- 'bulkheadlaw12.CdbBounds', WHERE WHAT IT READS IS OF BULK AT MOST 1048576: true; the input reads as it did. -/
def cdbBoundsUptoRow : OpenClaim := { program := "ytehhhbehclpkbaa", sum := "c76d9f3ff873d90eecd1d8d7ceaa09a9cc737a1acc5c3c7fd248976ea90058e4", func := "bulkhead/bulkheadlaw12.CdbBounds", spec := "cdbBounds", apart := false, narrowed := true }
def CdbBoundsUptoSaid : Prop := cdbBoundsUptoRow.holds Try.pinned (OpenSpec.upto cdbBoundsSpec)

end Rows
end Go.Proofs.Ytehhhbehclpkbaa
