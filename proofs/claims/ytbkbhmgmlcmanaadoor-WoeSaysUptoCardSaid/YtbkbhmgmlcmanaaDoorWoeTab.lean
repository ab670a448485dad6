/-
  What the condition on the listed variables gives where a table is among them; a world that meets it; an int's bounds.
-/
import Derived.Test.YtbkbhmgmlcmanaaDoorWoeOpen
import Derived.Test.YtbkbhmgmlcmanaaDoorWoeSays
import Derived.Lib.LaidTab
import Derived.Deep.DeepLaidRun
namespace Go.Proofs.YtbkbhmgmlcmanaaDoor
open Go.RowKit Go.ChangeShapes Go.WideShapes Go.ChangeAt Go.Deep

theorem letters_ssize : ∀ ss : List ByteArray, letters ss = ssize ss
  | [] => rfl
  | s :: r => by simp only [letters, ssize, letters_ssize r]
theorem int64_in {x : Int} (h : (Lit.int .i64 x).wf = true) : -9223372036854775808 ≤ x ∧ x ≤ 9223372036854775807 := by
  have h1 : IntKind.i64.min = -9223372036854775808 := rfl
  have h2 : IntKind.i64.max = 9223372036854775807 := rfl
  simp only [Lit.wf, Bool.and_eq_true, decide_eq_true_eq] at h
  omega

theorem tabType : (Tryd.prog.globals[1]?).map (·.type) = some 93 := by kernel_rfl
theorem cells20 : Tryd.prog.cellsOf 93 = 20 := by kernel_rfl
theorem cellsU64 : Tryd.prog.cellsOf 84 = 1 := by kernel_rfl
theorem tab_data : (Rows.laid_internal_strconv_uint64pow10 : DataW Unit) = Lib.tabData .u64 Lib.pow10Tab := by kernel_rfl
theorem tab_of_laid {W : World} {a b : String × DataW Unit} (h : laidMet Tryd.prog [a, b, ("internal/strconv.uint64pow10", Rows.laid_internal_strconv_uint64pow10)] W) : Tab W := by
  obtain ⟨ps, ⟨_, _, _, _, _, _, _, _, _, _, ⟨_, _, _, _, _, _, _, _, _, _, ⟨g', t', cs, fuel, p, q, hg', ht', hvar, hd, _, _⟩, _⟩, _⟩, _⟩ := h
  obtain rfl := Option.some.inj (tabGlobal.symm.trans hg')
  obtain rfl := Option.some.inj (tabType.symm.trans ht')
  rw [tab_data] at hd
  unfold Tab Lib.TabIs
  rw [hvar, ← Lib.cells_of_tab Tryd.underlying93 Tryd.underlying84 cellsU64 cells20 hd]

def cellsOfData : DataW Unit → Array Value
  | .agg l => (l.filterMap fun | .lit (.int k z) => some (Value.int k z) | _ => none).toArray
  | _ => #[]
def relay (cs : Array Value) : Obj → Obj
  | .cells _ t frozen => .cells cs t frozen
  | o => o
/-- A world that meets the condition: the settled one, the four variables laid. -/
noncomputable def laidWorld4 (os : Os) : World :=
  let w0 := World.holding Tryd.prog os ⟨#[], #[], []⟩
  { w0 with heap := (((w0.heap.modify 0 (relay #[.iface 67 (.agg #[.pointer (some ⟨4, 27, none⟩)])])).modify 1 (relay (cellsOfData Rows.laid_internal_strconv_uint64pow10))).modify 2 (relay (cellsOfData Rows.laid_math_bits_deBruijn32tab))).modify 3 (relay (cellsOfData Rows.laid_math_bits_deBruijn64tab)) }
end Go.Proofs.YtbkbhmgmlcmanaaDoor
