/-
  Arguments opened: a slice of numbers, a slice of calls. What the listed variable's condition gives; a world that meets it.
-/
import Derived.Test.YtbmpbcnoclhhgaaDoorRows
import Derived.Test.YtbmpbcnoclhhgaaDoorDkPage
import Derived.ProofKit
import Derived.OpenShut
import Derived.SizedLaws
import Derived.Deep.Strs
import Derived.Deep.Slices
import Derived.Lib.SmallJoins
import Derived.LaidHandle
import Derived.ChangeSame
import Derived.ChangeVars
import Derived.JoinedOf
import Derived.LaidLaws
import Derived.Stop.Joined
import Derived.Carry
import Derived.Deep.DeepHandedRow
namespace Go.Proofs.YtbmpbcnoclhhgaaDoor
open Go.RowKit Go.ChangeShapes Go.WideShapes Go.ChangeAt Go.Deep Sh

theorem Tryd.own : ownKnob Tryd.prog.godebug = none := by kernel_rfl
theorem Tryd.laidOut : laidOutB Tryd.prog = true := by kernel_rfl
theorem Tryd.cellsInt : Tryd.prog.cellsOf 3 = 1 := by kernel_rfl
theorem Tryd.cellsCall : Tryd.prog.cellsOf 35 = 4 := by kernel_rfl
theorem Tryd.et : Tryd.prog.globalNamed "errors.errorType" = some 0 := by kernel_rfl
theorem Tryd.rt : (Tryd.prog.cutTypes.find? (·.1 == "internal/reflectlite.rtype")).map (·.2) = some 93 := by kernel_rfl
theorem Tryd.oneRow : ((List.range 134).filter fun t => Tryd.prog.rowNamed t [101, 114, 114, 111, 114]) = [26] := by kernel_rfl
theorem Tryd.sizeTypes : Tryd.prog.types.size = 134 := by kernel_rfl

theorem laid_of_handles {l : List (String × DataW Unit)} {W : World} (hm : ("errors.errorType", Rows.laid_errors_errorType) ∈ l) (h' : handlesMet Tryd.prog l W) : Laid W := by
  obtain ⟨name, u, ty, e1, e2, e3, e4, e5⟩ := h' _ hm
  have en : name = [101, 114, 114, 111, 114] := (Option.some.inj e1).symm
  subst en
  obtain rfl := Option.some.inj (Tryd.rt.symm.trans e2)
  have hmm : ty ∈ (List.range 134).filter fun t => Tryd.prog.rowNamed t [101, 114, 114, 111, 114] := List.mem_filter.2 ⟨List.mem_range.2 (by rw [← Tryd.sizeTypes]; exact e3), e4⟩
  rw [Tryd.oneRow] at hmm
  obtain rfl := List.mem_singleton.1 hmm
  have hh : typeHandle Tryd.prog 26 = .pointer (some ⟨1, 26, none⟩) := by kernel_rfl
  rw [hh] at e5
  exact show W.cell? ⟨0, 0, none⟩ = _ by simpa using World.var?_cell Tryd.et e5 0

/-- A world that meets the condition: the settled one, the variable's cell laid. -/
noncomputable def laidWorld (os : Os) : World :=
  let w0 := World.holding Tryd.prog os ⟨#[], #[], []⟩
  { w0 with heap := w0.heap.modify 0 fun
      | .cells _ t frozen => .cells #[.iface 93 (.agg #[.pointer (some ⟨1, 26, none⟩)])] t frozen
      | o => o }

/-- A call of a law's list. -/
structure CallD where
  kind : Int
  i : Int
  what : UInt8
  ap : Option Addr
  pick : List Int
  cp : Nat
def callCells (c : CallD) : List Value := [.int .i64 c.kind, .int .i64 c.i, cu8 c.what, .slice c.ap c.pick.length c.cp]
structure CallOk (N : Nat) (w : World) (c : CallD) : Prop where
  pick : Nums N w c.ap c.pick
  len : c.pick.length ≤ 9223372036854775807
  lo : -9223372036854775808 ≤ c.i
  hi : c.i ≤ 9223372036854775807
/-- A slice of calls, wherever it lies below block N. -/
def CallsAt (N : Nat) (w : World) (bp : Option Addr) (cs : List CallD) : Prop := cs = [] ∨ ∃ b o, bp = some ⟨b, o, none⟩ ∧ b < N ∧ ∀ (j : Nat) (c : CallD), cs[j]? = some c → w.rangeAt b (o + j * 4) (callCells c) ∧ CallOk N w c
theorem CallOk.below {N : Nat} {w w' : World} {c : CallD} (h : CallOk N w c) (hb : Below N w w') : CallOk N w' c := ⟨h.pick.below hb, h.len, h.lo, h.hi⟩
theorem CallsAt.below {N : Nat} {w w' : World} {bp : Option Addr} {cs : List CallD} (h : CallsAt N w bp cs) (hb : Below N w w') : CallsAt N w' bp cs :=
  h.imp id (fun ⟨b, o, h1, h2, h3⟩ => ⟨b, o, h1, h2, fun j c hj => ⟨fun k v hk => (hb.cell (p := ⟨b, o + j * 4 + k, none⟩) h2).trans ((h3 j c hj).1 k v hk), (h3 j c hj).2.below hb⟩⟩)

theorem add_off (b off i : Nat) : (⟨b, off, none⟩ : Addr).add i = ⟨b, off + i, none⟩ := by unfold Addr.add; split <;> simp_all

/-- A slice of ints, as the reader has it. -/
theorem nums_of_trod {H : Type} {enc : TypeId × Value → H} {P : Program} {t e : TypeId} (ht : P.underlying t = some (.slice e)) (he : P.underlying e = some (.int .i64)) (hc : P.cellsOf e = 1)
    {W : World} {base fuel : Nat} {spare : Nat → Bool} {held : Bool} {v : Value} {x : DataW H × List MemPlace} (hf : DataW.trod enc P W base spare held fuel t [v] = some x) :
    ∃ (a : Option Addr) (zs : List Int) (cap : Nat), v = .slice a zs.length cap ∧ Nums W.heap.size W a zs ∧ zs.length ≤ 9223372036854775807 := by
  rcases open_ints ht he hc hf with ⟨hcs, _⟩ | ⟨a, len', cap', zs, hcs, _, hl, hm, hz, hx, hcell, hwz⟩
  · simp only [List.cons.injEq, and_true] at hcs
    exact ⟨none, [], 0, hcs, .inl rfl, by simp⟩
  · simp only [List.cons.injEq, and_true] at hcs
    have hlz : len' ≤ zs.length := by rw [hz]; split <;> omega
    unfold maxLen at hm
    refine ⟨some a, zs.take len', cap', by rw [List.length_take, Nat.min_eq_left hlz]; exact hcs, ?_, by rw [List.length_take]; omega⟩
    rcases Nat.eq_zero_or_pos len' with h | hpos
    · exact .inl (by rw [h]; rfl)
    right
    obtain ⟨b, off, s⟩ := a
    obtain rfl : s = none := by simpa [Addr.add] using World.cell?_spot (hcell 0 (by omega))
    refine ⟨b, off, rfl, ?_, fun i z hi => ?_⟩
    · have := World.block_lt_of_cell? W _ (hcell 0 (by omega))
      simpa [add_off] using this
    · have hil : i < len' := by have := (List.getElem?_eq_some_iff.1 hi).1; rw [List.length_take] at this; omega
      have hiz : i < zs.length := by omega
      rw [← add_off, hcell i hiz]
      rw [List.getElem?_take, if_pos hil] at hi
      rw [List.getD_eq_getElem?_getD, hi]; rfl

theorem open_nums {H : Type} {enc : TypeId × Value → H} {W : World} {v : Value} {d0 : DataW H} {p : List MemPlace} (h0 : DataW.Trod enc Tryd.prog W 0 (fun _ => true) true 33 v d0 p) (hv : v.cells = #[v]) :
    ∃ (a : Option Addr) (zs : List Int) (cap : Nat), v = .slice a zs.length cap ∧ Nums W.heap.size W a zs ∧ zs.length ≤ 9223372036854775807 := by
  obtain ⟨fuel, hf⟩ := h0
  rw [hv] at hf
  exact nums_of_trod Tryd.underlying33 Tryd.underlying3 Tryd.cellsInt hf

set_option maxRecDepth 100000 in
theorem call_of_trod {H : Type} {enc : TypeId × Value → H} {W : World} {base fuel : Nat} {spare : Nat → Bool} {held : Bool} {cs : List Value} {x : DataW H × List MemPlace} (hf : DataW.trod enc Tryd.prog W base spare held fuel 35 cs = some x) :
    ∃ c : CallD, cs = callCells c ∧ CallOk W.heap.size W c := by
  obtain ⟨y0, y1, y2, y3, n, _, hl, h0, h1, h2, h3⟩ := Joins.trod_struct4 Tryd.underlying35 hf
  rw [Tryd.cellsCall] at hl
  match cs, hl with
  | [c0, c1, c2, c3], _ =>
    obtain ⟨k, e0, _, _⟩ := DataW.trod_int Tryd.underlying3 h0
    obtain ⟨i, e1, _, w1⟩ := DataW.trod_int Tryd.underlying3 h1
    obtain ⟨b, e2, _, w2⟩ := DataW.trod_int Tryd.underlying5 h2
    have f0 : [c0] = [Value.int .i64 k] := e0
    have f1 : [c1] = [Value.int .i64 i] := e1
    have f2 : [c2] = [Value.int .u8 b] := e2
    have h3' : DataW.trod enc Tryd.prog W base spare held n 33 [c3] = some y3 := h3
    obtain ⟨a, zs, cap, e3, hn, hz⟩ := nums_of_trod Tryd.underlying33 Tryd.underlying3 Tryd.cellsInt h3'
    simp only [List.cons.injEq, and_true] at f0 f1 f2
    have g1 : IntKind.u8.min = 0 := rfl
    have g2 : IntKind.u8.max = 255 := rfl
    simp only [Lit.wf, Bool.and_eq_true, decide_eq_true_eq] at w1 w2
    have m1 : IntKind.i64.min = -9223372036854775808 := rfl
    have m2 : IntKind.i64.max = 9223372036854775807 := rfl
    have eb : cu8 (UInt8.ofNat b.toNat) = .int .u8 b := by
      rw [cu8, bz_eq, UInt8.toNat_ofNat']
      congr 1
      omega
    refine ⟨⟨k, i, UInt8.ofNat b.toNat, a, zs, cap⟩, ?_, ⟨hn, hz, by show _ ≤ i; omega, by show i ≤ _; omega⟩⟩
    rw [f0, f1, f2, e3, callCells, eb]

theorem open_calls {H : Type} {enc : TypeId × Value → H} {W : World} {a0 : Option Addr} {len cap : Nat} {d0 : DataW H} {p : List MemPlace} (h0 : DataW.Trod enc Tryd.prog W 0 (fun _ => true) true 22 (.slice a0 len cap) d0 p) :
    ∃ cs : List CallD, cs.length = len ∧ CallsAt W.heap.size W a0 cs ∧ len ≤ 9223372036854775807 := by
  obtain ⟨fuel, hf⟩ := h0
  rcases open_slice Tryd.underlying22 hf with ⟨hcs, _⟩ | ⟨a, len', cap', m, n, D, Pl, hcs, _, hl, hm, hmm, hx, hrow⟩
  · simp [Value.cells] at hcs
    obtain ⟨rfl, rfl, rfl⟩ := hcs
    exact ⟨[], rfl, .inl rfl, by omega⟩
  · simp [Value.cells] at hcs
    obtain ⟨rfl, rfl, rfl⟩ := hcs
    unfold maxLen at hm
    have hlm : len ≤ m := by rw [hmm]; split <;> omega
    rw [Tryd.cellsCall] at hrow
    have hc : ∀ i, i < len → ∃ c : CallD, (∀ k v, (callCells c)[k]? = some v → W.cell? (a.add (i * 4 + k)) = some v) ∧ CallOk W.heap.size W c := fun i hi => by
      obtain ⟨cs', h1, h2⟩ := hrow i (by omega)
      obtain ⟨c, rfl, hok⟩ := call_of_trod h2
      obtain ⟨_, hlen, hcell⟩ := World.cells?_some h1
      refine ⟨c, fun k v hk => ?_, hok⟩
      have hk4 : k < 4 := by have := (List.getElem?_eq_some_iff.1 hk).1; simpa [callCells] using this
      have := hcell k hk4
      rw [hk] at this
      rw [← this, Deep.add_add]
    classical
    refine ⟨(List.range len).map (fun i => if h : i < len then (hc i h).choose else ⟨0, 0, 0, none, [], 0⟩), by simp, ?_, by omega⟩
    rcases Nat.eq_zero_or_pos len with h | hpos
    · exact .inl (by subst h; rfl)
    right
    obtain ⟨b, off, s⟩ := a
    obtain ⟨c0, hc0, _⟩ := hc 0 hpos
    have h00 := hc0 0 (.int .i64 c0.kind) rfl
    obtain rfl : s = none := by simpa [Addr.add] using World.cell?_spot h00
    refine ⟨b, off, rfl, ?_, fun j c hj => ?_⟩
    · have := World.block_lt_of_cell? W _ h00
      simpa [add_off] using this
    · have hjl : j < len := by simpa using (List.getElem?_eq_some_iff.1 hj).1
      have ec : (hc j hjl).choose = c := by simpa [hjl] using hj
      obtain ⟨h1, h2⟩ := (hc j hjl).choose_spec
      rw [ec] at h1 h2
      exact ⟨fun k v hk => by have := h1 k v hk; rwa [add_off, ← Nat.add_assoc] at this, h2⟩
end Go.Proofs.YtbmpbcnoclhhgaaDoor
