/-
  Arguments opened: numbers, arrays of sixteen bytes, of two ints.
-/
import Derived.Test.YtehhhbehclpkbaaRows
import Derived.Test.YtehhhbehclpkbaaCdStands
import Derived.WideKeyArr2
import Derived.ProofKit
import Derived.OpenShut
import Derived.SizedLaws
import Derived.Deep.Strs
import Derived.Deep.Slices
import Derived.ChangeSame
import Derived.ChangeVars
import Derived.JoinedOf
import Derived.Carry
import Derived.Deep.DeepHandedRow
namespace Go.Proofs.Ytehhhbehclpkbaa
open Go.RowKit Go.ChangeShapes Go.WideShapes Go.ChangeAt Go.Deep Sh

theorem Try.own : ownKnob Try.prog.godebug = none := by kernel_rfl
theorem Try.laidOut : laidOutB Try.prog = true := by kernel_rfl
theorem wf_i64 {a : Int} (h : (Lit.int .i64 a).wf = true) : -9223372036854775808 ≤ a ∧ a ≤ 9223372036854775807 := by
  have h1 : IntKind.i64.min = -9223372036854775808 := rfl
  have h2 : IntKind.i64.max = 9223372036854775807 := rfl
  simp only [Lit.wf, Bool.and_eq_true, decide_eq_true_eq] at h
  omega
theorem wf_u64 {a : Int} (h : (Lit.int .u64 a).wf = true) : ∃ m : Nat, a = (m : Int) ∧ m < 18446744073709551616 := by
  have h1 : IntKind.u64.min = 0 := rfl
  have h2 : IntKind.u64.max = 18446744073709551615 := rfl
  simp only [Lit.wf, Bool.and_eq_true, decide_eq_true_eq] at h
  exact ⟨a.toNat, by omega, by omega⟩
theorem wf_u32 {a : Int} (h : (Lit.int .u32 a).wf = true) : ∃ m : Nat, a = (m : Int) ∧ m < 4294967296 := by
  have h1 : IntKind.u32.min = 0 := rfl
  have h2 : IntKind.u32.max = 4294967295 := rfl
  simp only [Lit.wf, Bool.and_eq_true, decide_eq_true_eq] at h
  exact ⟨a.toNat, by omega, by omega⟩
theorem wf_u8 {a : Int} (h : (Lit.int .u8 a).wf = true) : ∃ m : Nat, a = (m : Int) ∧ m < 256 := by
  have h1 : IntKind.u8.min = 0 := rfl
  have h2 : IntKind.u8.max = 255 := rfl
  simp only [Lit.wf, Bool.and_eq_true, decide_eq_true_eq] at h
  exact ⟨a.toNat, by omega, by omega⟩
theorem byte_wf {a : Int} (h : (Lit.int .u8 a).wf = true) : ∃ c : UInt8, a = bz c := by
  obtain ⟨m, rfl, hm⟩ := wf_u8 h
  exact ⟨UInt8.ofNat m, by rw [bz_eq, UInt8.toNat_ofNat']; omega⟩
theorem mapM_each {α β : Type} {f : α → Option β} : ∀ (L : List α) (xs : List β), L.mapM f = some xs → ∀ i ∈ L, ∃ y, f i = some y
  | [], _, _ => by simp
  | i :: L, xs, h => by
    rw [List.mapM_cons] at h
    simp only [bind, Option.bind_eq_some_iff, pure, Option.some.injEq] at h
    obtain ⟨y, hy, ys, hys, _⟩ := h
    intro j hj
    rcases List.mem_cons.1 hj with rfl | hj
    · exact ⟨y, hy⟩
    · exact mapM_each L ys hys j hj
theorem open_nums {H : Type} {enc : TypeId × Value → H} {P : Program} {k e : TypeId} {n : Nat} {q : IntKind} {W : World} {base : Nat} {sp : Nat → Bool} {held : Bool} (A : WideMaps.ArrKey P k e n) (he : P.underlying e = some (.int q)) {xs : Array Value} (hn : xs.size = n) {d : DataW H} {ps : List MemPlace}
    (hd : DataW.Trod enc P W base sp held k (.agg xs) d ps) : ∀ i, i < n → ∃ a, xs[i]? = some (.int q a) ∧ (Lit.int q a).wf = true := by
  obtain ⟨fuel, hf⟩ := hd
  cases fuel with
  | zero => simp [DataW.trod] at hf
  | succ m =>
    rw [DataW.trod_step] at hf
    unfold DataW.trodStep at hf
    simp only [A.hu, Value.cells] at hf
    rw [if_pos (by rw [A.size]; simpa using hn)] at hf
    simp only [Option.map_eq_some_iff] at hf
    obtain ⟨ys, hy, _⟩ := hf
    intro i hi
    obtain ⟨y, h1⟩ := mapM_each _ _ hy i (by simpa using hi)
    obtain ⟨a, ea, _, wa⟩ := DataW.trod_int he h1
    rw [A.one, Nat.mul_one] at ea
    refine ⟨a, ?_, wa⟩
    have h2 : (xs.toList.drop i)[0]? = some (.int q a) := by
      have h3 := congrArg (fun l : List Value => l[0]?) ea
      simpa using h3
    simpa using h2
theorem Try.arr16 : WideMaps.ArrKey Try.prog 34 5 16 := ⟨Try.underlying34, by kernel_rfl, by kernel_rfl, by kernel_rfl⟩
theorem Try.arr2 : WideMaps.ArrKey Try.prog 28 3 2 := ⟨Try.underlying28, by kernel_rfl, by kernel_rfl, by kernel_rfl⟩
theorem open_b16 {H : Type} {enc : TypeId × Value → H} {W : World} {base : Nat} {sp : Nat → Bool} {held : Bool} {xs : Array Value} (hn : xs.size = 16) {d : DataW H} {ps : List MemPlace} (hd : DataW.Trod enc Try.prog W base sp held 34 (.agg xs) d ps) :
    ∃ B : List UInt8, xs = (B.map cu8).toArray ∧ B.length = 16 := by
  have h := open_nums Try.arr16 Try.underlying5 hn hd
  have h2 : ∀ i, i < 16 → ∃ c : UInt8, xs[i]? = some (cu8 c) := fun i hi => by
    obtain ⟨a, ha, hw⟩ := h i hi
    obtain ⟨c, rfl⟩ := byte_wf hw
    exact ⟨c, ha⟩
  clear h
  have hx : ∃ f : Nat → UInt8, ∀ i, i < 16 → xs[i]? = some (cu8 (f i)) := ⟨fun i => if hi : i < 16 then (h2 i hi).choose else 0, fun i hi => by simp only [hi, dite_true]; exact (h2 i hi).choose_spec⟩
  obtain ⟨f, hf⟩ := hx
  refine ⟨(List.range 16).map f, ?_, by simp⟩
  apply Array.ext_getElem?
  intro i
  rcases Nat.lt_or_ge i 16 with hi | hi
  · rw [hf i hi]
    simp [hi]
  · rw [Array.getElem?_eq_none (by omega), Array.getElem?_eq_none (by simpa using hi)]
theorem open_two {H : Type} {enc : TypeId × Value → H} {W : World} {base : Nat} {sp : Nat → Bool} {held : Bool} {xs : Array Value} (hn : xs.size = 2) {d : DataW H} {ps : List MemPlace} (hd : DataW.Trod enc Try.prog W base sp held 28 (.agg xs) d ps) :
    ∃ x y : Int, xs = #[.int .i64 x, .int .i64 y] ∧ (-9223372036854775808 ≤ x ∧ x ≤ 9223372036854775807) ∧ (-9223372036854775808 ≤ y ∧ y ≤ 9223372036854775807) := by
  have h := open_nums Try.arr2 Try.underlying3 hn hd
  obtain ⟨x, hx, wx⟩ := h 0 (by omega)
  obtain ⟨y, hy, wy⟩ := h 1 (by omega)
  refine ⟨x, y, ?_, wf_i64 wx, wf_i64 wy⟩
  apply Array.ext_getElem?
  intro i
  rcases Nat.lt_or_ge i 2 with hi | hi
  · obtain rfl | rfl : i = 0 ∨ i = 1 := by omega
    · rw [hx]; rfl
    · rw [hy]; rfl
  · rw [Array.getElem?_eq_none (by omega), Array.getElem?_eq_none (by simpa using hi)]
end Go.Proofs.Ytehhhbehclpkbaa
