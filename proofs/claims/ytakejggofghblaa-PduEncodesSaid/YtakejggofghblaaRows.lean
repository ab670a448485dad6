/-
  No cell of these rows narrows 'for every input' (looked for: loops, veiled, ifaces, maps, wideKeys, modest, calm, conditions, laid).
  DERIVED. THE GIVEN ROWS OF THIS SEAT. 6 by the template 'for every input the law returns true; each argument reads behind the call as it read before'; 0 by the template 'total and deterministic' (their statements: YtakejggofghblaaTotals.lean).
  GIVEN WITH THE SEED: the statements are not yours to turn. If you find one false, say at which input.
  Laid BY PROGRAM, IN A SANDBOX (cutbox-rows.mjs): the forced cells as the released guide's own fill.sh prints them over the translation a2c8fd0699c6aaf7… (all of the seat's roots in one cut). By AI agents, Wed Nov 11 2026. No macro, syntax, notation, axiom, sorry.
-/
import Derived.Test.YtakejggofghblaaChecked
import GoSem.Claim
import GoSem.ClaimJoined
import GoSem.ClaimMapViews
import Derived.JoinedTies
import Derived.KernelRfl
namespace Go.Proofs.Ytakejggofghblaa
/- THE CELL 'sum', in the pinned program and in every row, IS THE sha256 OF THE DUMP (.gsa) THAT YtakejggofghblaaProg.lean LOADS. Nothing in Lean hashes anything: it is a label: what it is worth is what the hold of that sum in a sandbox is worth. -/
noncomputable def Try.pinned : Pinned := { name := "ytakejggofghblaa", sum := "a2c8fd0699c6aaf7ee9b60e0c92047ba898913b39605c4d138c44f2bd5563846", checked := Try.checked }
namespace Rows
def none {H : Type} : Left H := { results := [], args := [] }

/-- 'bulkheadlaw14.PduEncodes': WHATEVER THE INPUT: true; the input reads as it did. -/
def pduEncodesSpec : ChangeSpec := { name := "pduEncodes", fn := fun _ => fun
  | [d1, d2, d3] => { results := [.lit (.bool true)], args := [d1, d2, d3] }
  | _ => none }
def pduEncodesRow : OpenClaim := { program := "ytakejggofghblaa", sum := "a2c8fd0699c6aaf7ee9b60e0c92047ba898913b39605c4d138c44f2bd5563846", func := "bulkhead/bulkheadlaw14.PduEncodes", spec := "pduEncodes", unfollowed := true, recurses := true, apart := false }
def PduEncodesSaid : Prop := pduEncodesRow.holds Try.pinned (OpenSpec.ofChange pduEncodesSpec)

/-- ITS FALSE NEIGHBOUR: 'it returns false'. Refute it at one input. -/
def pduEncodesWrong : ChangeSpec := { name := "pduEncodes", fn := fun _ => fun
  | [d1, d2, d3] => { results := [.lit (.bool false)], args := [d1, d2, d3] }
  | _ => none }
def PduEncodesWrongFalsely : Prop := pduEncodesRow.holds Try.pinned (OpenSpec.ofChange pduEncodesWrong)

/-- 'bulkheadlaw14.PduReads': WHATEVER THE INPUT: true; the input reads as it did. -/
def pduReadsSpec : ChangeSpec := { name := "pduReads", fn := fun _ => fun
  | [d1, d2, d3] => { results := [.lit (.bool true)], args := [d1, d2, d3] }
  | _ => none }
def pduReadsRow : OpenClaim := { program := "ytakejggofghblaa", sum := "a2c8fd0699c6aaf7ee9b60e0c92047ba898913b39605c4d138c44f2bd5563846", func := "bulkhead/bulkheadlaw14.PduReads", spec := "pduReads", unfollowed := true, recurses := true, apart := false }
def PduReadsSaid : Prop := pduReadsRow.holds Try.pinned (OpenSpec.ofChange pduReadsSpec)

/-- ITS FALSE NEIGHBOUR: 'it returns false'. Refute it at one input. -/
def pduReadsWrong : ChangeSpec := { name := "pduReads", fn := fun _ => fun
  | [d1, d2, d3] => { results := [.lit (.bool false)], args := [d1, d2, d3] }
  | _ => none }
def PduReadsWrongFalsely : Prop := pduReadsRow.holds Try.pinned (OpenSpec.ofChange pduReadsWrong)

/-- 'bulkheadlaw14.PduBack': WHATEVER THE INPUT: true; the input reads as it did. -/
def pduBackSpec : ChangeSpec := { name := "pduBack", fn := fun _ => fun
  | [d1, d2, d3] => { results := [.lit (.bool true)], args := [d1, d2, d3] }
  | _ => none }
def pduBackRow : OpenClaim := { program := "ytakejggofghblaa", sum := "a2c8fd0699c6aaf7ee9b60e0c92047ba898913b39605c4d138c44f2bd5563846", func := "bulkhead/bulkheadlaw14.PduBack", spec := "pduBack", unfollowed := true, recurses := true, apart := false }
def PduBackSaid : Prop := pduBackRow.holds Try.pinned (OpenSpec.ofChange pduBackSpec)

/-- ITS FALSE NEIGHBOUR: 'it returns false'. Refute it at one input. -/
def pduBackWrong : ChangeSpec := { name := "pduBack", fn := fun _ => fun
  | [d1, d2, d3] => { results := [.lit (.bool false)], args := [d1, d2, d3] }
  | _ => none }
def PduBackWrongFalsely : Prop := pduBackRow.holds Try.pinned (OpenSpec.ofChange pduBackWrong)

/-- 'bulkheadlaw14.PduNone': WHATEVER THE INPUT: true; the input reads as it did. -/
def pduNoneSpec : ChangeSpec := { name := "pduNone", fn := fun _ => fun
  | [d1, d2] => { results := [.lit (.bool true)], args := [d1, d2] }
  | _ => none }
def pduNoneRow : OpenClaim := { program := "ytakejggofghblaa", sum := "a2c8fd0699c6aaf7ee9b60e0c92047ba898913b39605c4d138c44f2bd5563846", func := "bulkhead/bulkheadlaw14.PduNone", spec := "pduNone", unfollowed := true, recurses := true, apart := false }
def PduNoneSaid : Prop := pduNoneRow.holds Try.pinned (OpenSpec.ofChange pduNoneSpec)

/-- ITS FALSE NEIGHBOUR: 'it returns false'. Refute it at one input. -/
def pduNoneWrong : ChangeSpec := { name := "pduNone", fn := fun _ => fun
  | [d1, d2] => { results := [.lit (.bool false)], args := [d1, d2] }
  | _ => none }
def PduNoneWrongFalsely : Prop := pduNoneRow.holds Try.pinned (OpenSpec.ofChange pduNoneWrong)

/-- 'bulkheadlaw14.PduSizes': WHATEVER THE INPUT: true; the input reads as it did. -/
def pduSizesSpec : ChangeSpec := { name := "pduSizes", fn := fun _ => fun
  | [d1, d2, d3] => { results := [.lit (.bool true)], args := [d1, d2, d3] }
  | _ => none }
def pduSizesRow : OpenClaim := { program := "ytakejggofghblaa", sum := "a2c8fd0699c6aaf7ee9b60e0c92047ba898913b39605c4d138c44f2bd5563846", func := "bulkhead/bulkheadlaw14.PduSizes", spec := "pduSizes", unfollowed := true, recurses := true, apart := false }
def PduSizesSaid : Prop := pduSizesRow.holds Try.pinned (OpenSpec.ofChange pduSizesSpec)

/-- ITS FALSE NEIGHBOUR: 'it returns false'. Refute it at one input. -/
def pduSizesWrong : ChangeSpec := { name := "pduSizes", fn := fun _ => fun
  | [d1, d2, d3] => { results := [.lit (.bool false)], args := [d1, d2, d3] }
  | _ => none }
def PduSizesWrongFalsely : Prop := pduSizesRow.holds Try.pinned (OpenSpec.ofChange pduSizesWrong)

/-- 'bulkheadlaw14.PduStops': WHATEVER THE INPUT: true; the input reads as it did. -/
def pduStopsSpec : ChangeSpec := { name := "pduStops", fn := fun _ => fun
  | [d1, d2, d3] => { results := [.lit (.bool true)], args := [d1, d2, d3] }
  | _ => none }
def pduStopsRow : OpenClaim := { program := "ytakejggofghblaa", sum := "a2c8fd0699c6aaf7ee9b60e0c92047ba898913b39605c4d138c44f2bd5563846", func := "bulkhead/bulkheadlaw14.PduStops", spec := "pduStops", unfollowed := true, recurses := true, apart := false }
def PduStopsSaid : Prop := pduStopsRow.holds Try.pinned (OpenSpec.ofChange pduStopsSpec)

/-- ITS FALSE NEIGHBOUR: 'it returns false'. Refute it at one input. -/
def pduStopsWrong : ChangeSpec := { name := "pduStops", fn := fun _ => fun
  | [d1, d2, d3] => { results := [.lit (.bool false)], args := [d1, d2, d3] }
  | _ => none }
def PduStopsWrongFalsely : Prop := pduStopsRow.holds Try.pinned (OpenSpec.ofChange pduStopsWrong)

/- THE SECOND FORM. 'bulk': how many values and letters a reading holds, each counted each time it is reached (what is shared counts as often as it is met; a slice's spare places count too). A statement '..UptoSaid' is the law's where the arguments, and the package variables that the reading takes, are together of bulk at most 1048576: NARROWER than '..Said'. Prove '..Said' where nothing that the law and all that it calls make is longer than what came in: it says more and counts as full. Else prove '..UptoSaid'. A law counts once. -/
mutual
def uptoBulk {H : Type} : DataW H → Nat
  | .lit (.string bytes) => bytes.length + 1
  | .lit _ => 1
  | .nil => 1
  | .ptr d => uptoBulk d + 1
  | .slice elems spare => uptoBulkAll elems + uptoBulkAll spare + 1
  | .agg parts => uptoBulkAll parts + 1
  | .iface _ d => uptoBulk d + 1
  | .map entries => uptoBulkEntries entries + 1
  | .held _ => 1
def uptoBulkAll {H : Type} : List (DataW H) → Nat
  | [] => 0
  | d :: r => uptoBulk d + uptoBulkAll r
def uptoBulkEntries {H : Type} : List (Lit × DataW H) → Nat
  | [] => 0
  | x :: r => uptoBulkEntry x + uptoBulkEntries r
def uptoBulkEntry {H : Type} : Lit × DataW H → Nat
  | (.string bytes, d) => bytes.length + uptoBulk d + 1
  | (_, d) => uptoBulk d + 1
 end
def uptoSmall : (H : Type) → List (DataW H) → Bool := fun _ ds => decide (uptoBulkAll ds ≤ 1048576)
def OpenSpec.upto (s : _root_.Go.ChangeSpec) : _root_.Go.OpenSpec := { _root_.Go.OpenSpec.ofChange s with cond := some uptoSmall }

/-- 'bulkheadlaw14.PduEncodes', WHERE WHAT IT READS IS OF BULK AT MOST 1048576: true; the input reads as it did. -/
def pduEncodesUptoRow : OpenClaim := { program := "ytakejggofghblaa", sum := "a2c8fd0699c6aaf7ee9b60e0c92047ba898913b39605c4d138c44f2bd5563846", func := "bulkhead/bulkheadlaw14.PduEncodes", spec := "pduEncodes", unfollowed := true, recurses := true, apart := false, narrowed := true }
def PduEncodesUptoSaid : Prop := pduEncodesUptoRow.holds Try.pinned (OpenSpec.upto pduEncodesSpec)

/-- 'bulkheadlaw14.PduReads', WHERE WHAT IT READS IS OF BULK AT MOST 1048576: true; the input reads as it did. -/
def pduReadsUptoRow : OpenClaim := { program := "ytakejggofghblaa", sum := "a2c8fd0699c6aaf7ee9b60e0c92047ba898913b39605c4d138c44f2bd5563846", func := "bulkhead/bulkheadlaw14.PduReads", spec := "pduReads", unfollowed := true, recurses := true, apart := false, narrowed := true }
def PduReadsUptoSaid : Prop := pduReadsUptoRow.holds Try.pinned (OpenSpec.upto pduReadsSpec)

/-- 'bulkheadlaw14.PduBack', WHERE WHAT IT READS IS OF BULK AT MOST 1048576: true; the input reads as it did. -/
def pduBackUptoRow : OpenClaim := { program := "ytakejggofghblaa", sum := "a2c8fd0699c6aaf7ee9b60e0c92047ba898913b39605c4d138c44f2bd5563846", func := "bulkhead/bulkheadlaw14.PduBack", spec := "pduBack", unfollowed := true, recurses := true, apart := false, narrowed := true }
def PduBackUptoSaid : Prop := pduBackUptoRow.holds Try.pinned (OpenSpec.upto pduBackSpec)

/-- 'bulkheadlaw14.PduNone', WHERE WHAT IT READS IS OF BULK AT MOST 1048576: true; the input reads as it did. -/
def pduNoneUptoRow : OpenClaim := { program := "ytakejggofghblaa", sum := "a2c8fd0699c6aaf7ee9b60e0c92047ba898913b39605c4d138c44f2bd5563846", func := "bulkhead/bulkheadlaw14.PduNone", spec := "pduNone", unfollowed := true, recurses := true, apart := false, narrowed := true }
def PduNoneUptoSaid : Prop := pduNoneUptoRow.holds Try.pinned (OpenSpec.upto pduNoneSpec)

/-- 'bulkheadlaw14.PduSizes', WHERE WHAT IT READS IS OF BULK AT MOST 1048576: true; the input reads as it did. -/
def pduSizesUptoRow : OpenClaim := { program := "ytakejggofghblaa", sum := "a2c8fd0699c6aaf7ee9b60e0c92047ba898913b39605c4d138c44f2bd5563846", func := "bulkhead/bulkheadlaw14.PduSizes", spec := "pduSizes", unfollowed := true, recurses := true, apart := false, narrowed := true }
def PduSizesUptoSaid : Prop := pduSizesUptoRow.holds Try.pinned (OpenSpec.upto pduSizesSpec)

/-- 'bulkheadlaw14.PduStops', WHERE WHAT IT READS IS OF BULK AT MOST 1048576: true; the input reads as it did. -/
def pduStopsUptoRow : OpenClaim := { program := "ytakejggofghblaa", sum := "a2c8fd0699c6aaf7ee9b60e0c92047ba898913b39605c4d138c44f2bd5563846", func := "bulkhead/bulkheadlaw14.PduStops", spec := "pduStops", unfollowed := true, recurses := true, apart := false, narrowed := true }
def PduStopsUptoSaid : Prop := pduStopsUptoRow.holds Try.pinned (OpenSpec.upto pduStopsSpec)

end Rows
end Go.Proofs.Ytakejggofghblaa
