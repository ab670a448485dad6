/-
  An array of numbers that came in by value, opened.
-/
import Derived.Test.YtmbhfmipmadjpaaCrcFitsLaw
import Derived.Test.YtmbhfmipmadjpaaShaOpen
import Derived.WideKeyArr2
namespace Go.Proofs.Ytmbhfmipmadjpaa
open Go.RowKit Go.ChangeShapes Go.WideShapes Go.ChangeAt Sh Cr

theorem mapM_each {α β : Type} {f : α → Option β} : ∀ (L : List α) (xs : List β), L.mapM f = some xs → ∀ i ∈ L, ∃ y, f i = some y
  | [], _, _ => by simp
  | i :: L, xs, h => by
    rw [List.mapM_cons] at h
    simp only [bind, Option.bind_eq_some_iff, pure, Option.some.injEq] at h
    obtain ⟨y, hy, ys, hys, _⟩ := h
    intro j hj
    rcases List.mem_cons.1 hj with rfl | hj
    · exact ⟨y, hy⟩
    · exact mapM_each L ys hys j hj

theorem open_nums {H : Type} {enc : TypeId × Value → H} {P : Program} {k e : TypeId} {n : Nat} {q : IntKind} {W : World} {base : Nat} {sp : Nat → Bool} {held : Bool} (A : WideMaps.ArrKey P k e n) (he : P.underlying e = some (.int q)) {xs : Array Value} (hn : xs.size = n) {d : DataW H} {ps : List MemPlace}
    (hd : DataW.Trod enc P W base sp held k (.agg xs) d ps) : ∀ i, i < n → ∃ a, xs[i]? = some (.int q a) ∧ (Lit.int q a).wf = true := by
  obtain ⟨fuel, hf⟩ := hd
  cases fuel with
  | zero => simp [DataW.trod] at hf
  | succ m =>
    rw [DataW.trod_step] at hf
    unfold DataW.trodStep at hf
    simp only [A.hu, Value.cells] at hf
    rw [if_pos (by rw [A.size]; simpa using hn)] at hf
    simp only [Option.map_eq_some_iff] at hf
    obtain ⟨ys, hy, _⟩ := hf
    intro i hi
    obtain ⟨y, h1⟩ := mapM_each _ _ hy i (by simpa using hi)
    obtain ⟨a, ea, _, wa⟩ := DataW.trod_int he h1
    rw [A.one, Nat.mul_one] at ea
    refine ⟨a, ?_, wa⟩
    have h2 : (xs.toList.drop i)[0]? = some (.int q a) := by
      have h3 := congrArg (fun l : List Value => l[0]?) ea
      simpa using h3
    simpa using h2

theorem Try.arr4 : WideMaps.ArrKey Try.prog 36 5 4 := ⟨Try.underlying36, by kernel_rfl, by kernel_rfl, by kernel_rfl⟩
theorem Try.arr4n : WideMaps.ArrKey Try.prog 30 22 4 := ⟨Try.underlying30, by kernel_rfl, by kernel_rfl, by kernel_rfl⟩

theorem num_in {x : Int} (h : (Lit.int .u32 x).wf = true) : ∃ c : UInt32, x = uz c := by
  have h1 : IntKind.u32.min = 0 := rfl
  have h2 : IntKind.u32.max = 4294967295 := rfl
  simp only [Lit.wf, Bool.and_eq_true, decide_eq_true_eq] at h
  exact ⟨UInt32.ofNat x.toNat, by rw [uz_eq, UInt32.toNat_ofNat']; omega⟩
theorem four_cells {xs : Array Value} {R : Value → Prop} (hn : xs.size = 4) (h : ∀ i, i < 4 → ∃ v, xs[i]? = some v ∧ R v) : ∃ a b c d, xs = #[a, b, c, d] ∧ R a ∧ R b ∧ R c ∧ R d := by
  obtain ⟨a, ha, ra⟩ := h 0 (by omega)
  obtain ⟨b, hb, rb⟩ := h 1 (by omega)
  obtain ⟨c, hc, rc⟩ := h 2 (by omega)
  obtain ⟨d, hd, rd⟩ := h 3 (by omega)
  refine ⟨a, b, c, d, ?_, ra, rb, rc, rd⟩
  apply Array.ext_getElem?
  intro i
  rcases Nat.lt_or_ge i 4 with hi | hi
  · obtain rfl | rfl | rfl | rfl : i = 0 ∨ i = 1 ∨ i = 2 ∨ i = 3 := by omega
    · rw [ha]; rfl
    · rw [hb]; rfl
    · rw [hc]; rfl
    · rw [hd]; rfl
  · rw [Array.getElem?_eq_none (by omega), Array.getElem?_eq_none (by simpa using hi)]
theorem open_tail {H : Type} {enc : TypeId × Value → H} {W : World} {base : Nat} {sp : Nat → Bool} {held : Bool} {xs : Array Value} (hn : xs.size = 4) {d : DataW H} {ps : List MemPlace} (hd : DataW.Trod enc Try.prog W base sp held 36 (.agg xs) d ps) :
    ∃ tl : List UInt8, Hid (xs = (tl.map cu8).toArray) ∧ Hid (tl.length = 4) := by
  have h := open_nums Try.arr4 Try.underlying5 hn hd
  obtain ⟨a, b, c, d, rfl, ⟨a, rfl⟩, ⟨b, rfl⟩, ⟨c, rfl⟩, ⟨d, rfl⟩⟩ := four_cells (R := fun v => ∃ c : UInt8, v = cu8 c) hn (fun i hi => by
    obtain ⟨x, hx, hw⟩ := h i hi
    obtain ⟨c, rfl⟩ := byte_in hw
    exact ⟨_, hx, c, rfl⟩)
  exact ⟨[a, b, c, d], rfl, rfl⟩
theorem open_bent {H : Type} {enc : TypeId × Value → H} {W : World} {base : Nat} {sp : Nat → Bool} {held : Bool} {xs : Array Value} (hn : xs.size = 4) {d : DataW H} {ps : List MemPlace} (hd : DataW.Trod enc Try.prog W base sp held 30 (.agg xs) d ps) :
    ∃ a b c d : UInt32, xs = #[cu32 a, cu32 b, cu32 c, cu32 d] := by
  have h := open_nums Try.arr4n Try.underlying22 hn hd
  obtain ⟨a, b, c, d, rfl, ⟨a, rfl⟩, ⟨b, rfl⟩, ⟨c, rfl⟩, ⟨d, rfl⟩⟩ := four_cells (R := fun v => ∃ c : UInt32, v = cu32 c) hn (fun i hi => by
    obtain ⟨x, hx, hw⟩ := h i hi
    obtain ⟨c, rfl⟩ := num_in hw
    exact ⟨_, hx, c, rfl⟩)
  exact ⟨a, b, c, d, rfl⟩
end Go.Proofs.Ytmbhfmipmadjpaa
