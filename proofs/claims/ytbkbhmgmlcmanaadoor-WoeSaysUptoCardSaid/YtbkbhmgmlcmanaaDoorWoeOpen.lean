/-
  An argument of type '[]string', opened: texts, and no more of them than the reach. What the listed variable's condition gives; a world that meets it.
-/
import Derived.Test.YtbkbhmgmlcmanaaDoorRows
import Derived.Test.YtbkbhmgmlcmanaaDoorWoeWay2
import Derived.ProofKit
import Derived.OpenShut
import Derived.SizedLaws
import Derived.Deep.Strs
import Derived.LaidHandle
import Derived.ChangeSame
import Derived.ChangeVars
import Derived.JoinedOf
import Derived.LaidLaws
import Derived.Stop.Joined
import Derived.Carry
import Derived.Deep.DeepHandedRow
namespace Go.Proofs.YtbkbhmgmlcmanaaDoor
open Go.RowKit Go.ChangeShapes Go.WideShapes Go.ChangeAt Go.Deep

theorem Tryd.own : ownKnob Tryd.prog.godebug = none := by kernel_rfl
theorem Tryd.laidOut : laidOutB Tryd.prog = true := by kernel_rfl
theorem Tryd.cellsStr : Tryd.prog.cellsOf 9 = 1 := by kernel_rfl
theorem Tryd.bytesStr : Tryd.prog.bytesOf 9 = 16 := by kernel_rfl
theorem Tryd.et : Tryd.prog.globalNamed "errors.errorType" = some 0 := by kernel_rfl
theorem Tryd.rt : (Tryd.prog.cutTypes.find? (·.1 == "internal/reflectlite.rtype")).map (·.2) = some 67 := by kernel_rfl
theorem Tryd.oneRow : ((List.range 129).filter fun t => Tryd.prog.rowNamed t [101, 114, 114, 111, 114]) = [27] := by kernel_rfl
theorem Tryd.sizeTypes : Tryd.prog.types.size = 129 := by kernel_rfl

theorem laid_of_handles {l : List (String × DataW Unit)} {W : World} (hm : ("errors.errorType", Rows.laid_errors_errorType) ∈ l) (h' : handlesMet Tryd.prog l W) : Laid W := by
  obtain ⟨name, u, ty, e1, e2, e3, e4, e5⟩ := h' _ hm
  have en : name = [101, 114, 114, 111, 114] := (Option.some.inj e1).symm
  subst en
  obtain rfl := Option.some.inj (Tryd.rt.symm.trans e2)
  have hmm : ty ∈ (List.range 129).filter fun t => Tryd.prog.rowNamed t [101, 114, 114, 111, 114] := List.mem_filter.2 ⟨List.mem_range.2 (by rw [← Tryd.sizeTypes]; exact e3), e4⟩
  rw [Tryd.oneRow] at hmm
  obtain rfl := List.mem_singleton.1 hmm
  have hh : typeHandle Tryd.prog 27 = .pointer (some ⟨4, 27, none⟩) := by kernel_rfl
  rw [hh] at e5
  exact show W.cell? ⟨0, 0, none⟩ = _ by simpa using World.var?_cell Tryd.et e5 0

theorem open_texts {H : Type} {enc : TypeId × Value → H} {P : Program} {t e : TypeId} (ht : P.underlying t = some (.slice e)) (he : P.underlying e = some .string) (hc : P.cellsOf e = 1) (hb : P.bytesOf e = 16)
    {W : World} {a0 : Option Addr} {len cap : Nat} {d0 : DataW H} {p : List MemPlace} (h0 : DataW.Trod enc P W 0 (fun _ => true) true t (.slice a0 len cap) d0 p)
    {ts : List TypeId} {ds : List (DataW H)} (hsz : (DataW.weightsEach P ts ds).all (· ≤ reachBytes) = true) (j : Nat) (htj : ts[j]? = some t) (hdj : ds[j]? = some d0) :
    ∃ ss : List ByteArray, ss.length = len ∧ Texts W.heap.size W a0 ss ∧ len ≤ 140737488355328 ∧ (d0 = .nil ∧ len = 0 ∨ ∃ spare, d0 = .slice (ss.map fun s => .lit (.string s.data.toList)) spare) ∧ ∀ s ∈ ss, s.size ≤ maxLen := by
  obtain ⟨fuel, hf⟩ := h0
  rcases open_strs ht he hc hf with ⟨hcs, hx⟩ | ⟨a, len', cap', m, Sx, hcs, _, hl, hm, hmm, hx, hrow⟩
  · simp [Value.cells] at hcs
    obtain ⟨rfl, rfl, rfl⟩ := hcs
    simp only [Prod.mk.injEq] at hx
    exact ⟨[], rfl, .inl rfl, by omega, .inl ⟨hx.1, rfl⟩, by simp⟩
  · simp [Value.cells] at hcs
    obtain ⟨rfl, rfl, rfl⟩ := hcs
    simp only [Prod.mk.injEq] at hx
    obtain ⟨rfl, _⟩ := hx
    simp only [if_true] at hmm
    have hlen : len ≤ 140737488355328 := by
      have := sized_slice hsz htj hdj ht
      rw [hb] at this
      simp only [List.length_map, List.length_range, reachBytes] at this
      omega
    refine ⟨(List.range len).map Sx, by simp, ?_, hlen, .inr ⟨_, by rw [List.map_map]; rfl⟩, fun s hs => ?_⟩
    · rcases Nat.eq_zero_or_pos len with h | hpos
      · exact .inl (by rw [h]; rfl)
      right
      obtain ⟨b, off, s⟩ := a
      obtain rfl : s = none := by simpa [Addr.add] using World.cell?_spot (hrow 0 (by omega)).1
      have hadd : ∀ i, (⟨b, off, none⟩ : Addr).add i = ⟨b, off + i, none⟩ := fun i => by unfold Addr.add; split <;> simp_all
      refine ⟨b, off, rfl, ?_, fun i s hi => ?_⟩
      · have := World.block_lt_of_cell? W _ (hrow 0 (by omega)).1
        simpa [hadd] using this
      · have hil : i < len := by simpa using (List.getElem?_eq_some_iff.1 hi).1
        have : Sx i = s := by simpa [hil] using hi
        rw [← hadd, (hrow i (by omega)).1, this]
    · obtain ⟨i, hi, rfl⟩ := List.mem_map.1 hs
      exact (hrow i (by have := List.mem_range.1 hi; omega)).2

/-! What the bound gives. -/
theorem bulk_one {H : Type} (d : DataW H) : 1 ≤ Rows.uptoBulk d := by
  cases d with
  | lit l => cases l <;> simp [Rows.uptoBulk]
  | nil => simp [Rows.uptoBulk]
  | ptr d => simp [Rows.uptoBulk]
  | slice elems spare => simp [Rows.uptoBulk]
  | agg parts => simp [Rows.uptoBulk]
  | iface t d => simp [Rows.uptoBulk]
  | map entries => simp [Rows.uptoBulk]
  | held h => simp [Rows.uptoBulk]
/-- So many letters. -/
def letters : List ByteArray → Nat
  | [] => 0
  | s :: r => s.size + letters r
theorem bulk_strs {H : Type} : ∀ ss : List ByteArray, Rows.uptoBulkAll (ss.map fun s => DataW.lit (H := H) (.string s.data.toList)) = letters ss + ss.length
  | [] => by simp [Rows.uptoBulkAll, letters]
  | s :: r => by
    simp only [List.map_cons, Rows.uptoBulkAll, Rows.uptoBulk, bulk_strs r, letters, List.length_cons]
    have : s.data.toList.length = s.size := Array.length_toList
    omega
theorem bulk_texts {H : Type} {n0 : Int} {ss : List ByteArray} {d0 : DataW H} {len : Nat} {gs : List (DataW H)} (h : d0 = .nil ∧ len = 0 ∨ ∃ spare, d0 = .slice (ss.map fun s => .lit (.string s.data.toList)) spare) (hlen : ss.length = len)
    (hk : Rows.uptoSmall H ([.lit (.int .i64 n0), d0] ++ gs) = true) : letters ss + ss.length ≤ 1048576 := by
  have hb := of_decide_eq_true hk
  rcases h with ⟨rfl, h0⟩ | ⟨spare, rfl⟩
  · have : ss = [] := List.length_eq_zero_iff.1 (by omega)
    subst this
    show 0 + 0 ≤ _
    omega
  · simp only [List.cons_append, List.nil_append, Rows.uptoBulkAll, Rows.uptoBulk, bulk_strs] at hb
    omega

/-- A world that meets the condition: the settled one, the variable's cell laid. -/
noncomputable def laidWorld (os : Os) : World :=
  let w0 := World.holding Tryd.prog os ⟨#[], #[], []⟩
  { w0 with heap := w0.heap.modify 0 fun
      | .cells _ t frozen => .cells #[.iface 67 (.agg #[.pointer (some ⟨4, 27, none⟩)])] t frozen
      | o => o }
end Go.Proofs.YtbkbhmgmlcmanaaDoor
