/-
  Arguments opened: a mark, a slice of numbers, a slice of pairs. What the listed variable's condition gives; a world that meets it.
-/
import Derived.Test.YtegdlpllljccgaaDoorRows
import Derived.Test.YtegdlpllljccgaaDoorLwStands
import Derived.ProofKit
import Derived.OpenShut
import Derived.SizedLaws
import Derived.Deep.Strs
import Derived.Deep.Slices
import Derived.Lib.SmallJoins
import Derived.LaidHandle
import Derived.ChangeSame
import Derived.ChangeVars
import Derived.JoinedOf
import Derived.LaidLaws
import Derived.Stop.Joined
import Derived.Carry
import Derived.Deep.DeepHandedRow
set_option linter.unusedSimpArgs false
set_option linter.unusedVariables false
namespace Go.Proofs.YtegdlpllljccgaaDoor
open Go.RowKit Go.ChangeShapes Go.WideShapes Go.ChangeAt Go.Deep Sh

theorem Tryd.own : ownKnob Tryd.prog.godebug = none := by kernel_rfl
theorem Tryd.laidOut : laidOutB Tryd.prog = true := by kernel_rfl
theorem Tryd.cellsInt : Tryd.prog.cellsOf 3 = 1 := by kernel_rfl
theorem Tryd.cellsU64 : Tryd.prog.cellsOf 22 = 1 := by kernel_rfl
theorem Tryd.cellsU8 : Tryd.prog.cellsOf 5 = 1 := by kernel_rfl
theorem Tryd.cells32 : Tryd.prog.cellsOf 23 = 32 := by kernel_rfl
theorem Tryd.cellsMark : Tryd.prog.cellsOf 25 = 34 := by kernel_rfl
theorem Tryd.cellsPair : Tryd.prog.cellsOf 27 = 2 := by kernel_rfl
theorem Tryd.et : Tryd.prog.globalNamed "errors.errorType" = some 0 := by kernel_rfl
theorem Tryd.rt : (Tryd.prog.cutTypes.find? (·.1 == "internal/reflectlite.rtype")).map (·.2) = some 160 := by kernel_rfl
theorem Tryd.oneRow : ((List.range 220).filter fun t => Tryd.prog.rowNamed t [101, 114, 114, 111, 114]) = [32] := by kernel_rfl
theorem Tryd.sizeTypes : Tryd.prog.types.size = 220 := by kernel_rfl

theorem laid_of_handles {l : List (String × DataW Unit)} {W : World} (hm : ("errors.errorType", Rows.laid_errors_errorType) ∈ l) (h' : handlesMet Tryd.prog l W) : Laid W := by
  obtain ⟨name, u, ty, e1, e2, e3, e4, e5⟩ := h' _ hm
  have en : name = [101, 114, 114, 111, 114] := (Option.some.inj e1).symm
  subst en
  obtain rfl := Option.some.inj (Tryd.rt.symm.trans e2)
  have hmm : ty ∈ (List.range 220).filter fun t => Tryd.prog.rowNamed t [101, 114, 114, 111, 114] := List.mem_filter.2 ⟨List.mem_range.2 (by rw [← Tryd.sizeTypes]; exact e3), e4⟩
  rw [Tryd.oneRow] at hmm
  obtain rfl := List.mem_singleton.1 hmm
  have hh : typeHandle Tryd.prog 32 = .pointer (some ⟨1, 32, none⟩) := by kernel_rfl
  rw [hh] at e5
  exact show W.cell? ⟨0, 0, none⟩ = _ by simpa using World.var?_cell Tryd.et e5 0

/-- A world that meets the condition: the settled one, the variable's cell laid. -/
noncomputable def laidWorld (os : Os) : World :=
  let w0 := World.holding Tryd.prog os ⟨#[], #[], []⟩
  { w0 with heap := w0.heap.modify 0 fun
      | .cells _ t frozen => .cells #[.iface 160 (.agg #[.pointer (some ⟨1, 32, none⟩)])] t frozen
      | o => o }

theorem add_off (b off i : Nat) : (⟨b, off, none⟩ : Addr).add i = ⟨b, off + i, none⟩ := by unfold Addr.add; split <;> simp_all

/-- A slice of ints, as the reader has it. -/
theorem nums_of_trod {H : Type} {enc : TypeId × Value → H} {P : Program} {t e : TypeId} (ht : P.underlying t = some (.slice e)) (he : P.underlying e = some (.int .i64)) (hc : P.cellsOf e = 1)
    {W : World} {base fuel : Nat} {spare : Nat → Bool} {held : Bool} {v : Value} {x : DataW H × List MemPlace} (hf : DataW.trod enc P W base spare held fuel t [v] = some x) :
    ∃ (a : Option Addr) (zs : List Int) (cap : Nat), v = .slice a zs.length cap ∧ Nums W.heap.size W a zs ∧ zs.length ≤ 9223372036854775807 := by
  rcases open_ints ht he hc hf with ⟨hcs, _⟩ | ⟨a, len', cap', zs, hcs, _, hl, hm, hz, hx, hcell, hwz⟩
  · simp only [List.cons.injEq, and_true] at hcs
    exact ⟨none, [], 0, hcs, .inl rfl, by simp⟩
  · simp only [List.cons.injEq, and_true] at hcs
    have hlz : len' ≤ zs.length := by rw [hz]; split <;> omega
    unfold maxLen at hm
    refine ⟨some a, zs.take len', cap', by rw [List.length_take, Nat.min_eq_left hlz]; exact hcs, ?_, by rw [List.length_take]; omega⟩
    rcases Nat.eq_zero_or_pos len' with h | hpos
    · exact .inl (by rw [h]; rfl)
    right
    obtain ⟨b, off, s⟩ := a
    obtain rfl : s = none := by simpa [Addr.add] using World.cell?_spot (hcell 0 (by omega))
    refine ⟨b, off, rfl, ?_, fun i z hi => ?_⟩
    · have := World.block_lt_of_cell? W _ (hcell 0 (by omega))
      simpa [add_off] using this
    · have hil : i < len' := by have := (List.getElem?_eq_some_iff.1 hi).1; rw [List.length_take] at this; omega
      have hiz : i < zs.length := by omega
      rw [← add_off, hcell i hiz]
      rw [List.getElem?_take, if_pos hil] at hi
      rw [List.getD_eq_getElem?_getD, hi]; rfl

theorem open_nums {H : Type} {enc : TypeId × Value → H} {W : World} {v : Value} {d0 : DataW H} {p : List MemPlace} (h0 : DataW.Trod enc Tryd.prog W 0 (fun _ => true) true 69 v d0 p) (hv : v.cells = #[v]) :
    ∃ (a : Option Addr) (zs : List Int) (cap : Nat), v = .slice a zs.length cap ∧ Nums W.heap.size W a zs ∧ zs.length ≤ 9223372036854775807 := by
  obtain ⟨fuel, hf⟩ := h0
  rw [hv] at hf
  exact nums_of_trod Tryd.underlying69 Tryd.underlying3 Tryd.cellsInt hf

theorem byte_of {x : Int} (h : (Lit.int .u8 x).wf = true) : ∃ c : UInt8, Value.int .u8 x = cu8 c := by
  have h1 : IntKind.u8.min = 0 := rfl
  have h2 : IntKind.u8.max = 255 := rfl
  simp only [Lit.wf, Bool.and_eq_true, decide_eq_true_eq] at h
  exact ⟨UInt8.ofNat x.toNat, by rw [cu8, bz_eq, UInt8.toNat_ofNat']; congr 1; omega⟩

/-- Cells that are bytes one by one. -/
theorem bytes_of {n : Nat} {cs : List Value} (hn : cs.length = n) (h : ∀ i, i < n → ∃ c : UInt8, (cs.drop i).take 1 = [cu8 c]) : ∃ l : List UInt8, cs = l.map cu8 ∧ l.length = n := by
  induction n generalizing cs with
  | zero => exact ⟨[], by simpa using hn, rfl⟩
  | succ n ih =>
    match cs, hn with
    | c :: cs, hn =>
      obtain ⟨c0, h0⟩ := h 0 (by omega)
      obtain ⟨l, hl, hll⟩ := ih (cs := cs) (by simpa using hn) fun i hi => by simpa using h (i + 1) (by omega)
      have e0 : c = cu8 c0 := by simpa using h0
      exact ⟨c0 :: l, by rw [e0, hl]; rfl, by simp [hll]⟩

set_option maxRecDepth 100000 in
/-- A mark that came in by value. -/
theorem open_mark {H : Type} {enc : TypeId × Value → H} {W : World} {v : Value} {d0 : DataW H} {p : List MemPlace} (h0 : DataW.Trod enc Tryd.prog W 0 (fun _ => true) true 25 v d0 p) (hv : ∃ cs, v = .agg cs ∧ cs.size = Tryd.prog.cellsOf 25) :
    ∃ (pl : Int) (num : Nat) (last : List UInt8), v = .agg (markI pl num last).toArray ∧ last.length = 32 ∧ num < 18446744073709551616 ∧ -9223372036854775808 ≤ pl ∧ pl ≤ 9223372036854775807 := by
  obtain ⟨cs, rfl, _⟩ := hv
  obtain ⟨fuel, hf⟩ := h0
  obtain ⟨y0, y1, y2, n, _, hl, h0, h1, h2⟩ := trod_struct3 Tryd.underlying25 hf
  rw [Tryd.cellsMark] at hl
  have hl' : cs.toList.length = 34 := hl
  obtain ⟨z0, e0, _, w0⟩ := DataW.trod_int Tryd.underlying3 h0
  obtain ⟨z1, e1, _, w1⟩ := DataW.trod_int Tryd.underlying22 h1
  obtain ⟨xs, m, _, _, hlen, hxs, he⟩ := DataW.trod_array Tryd.underlying23 h2
  have e0' : (cs.toList.drop 0).take 1 = [Value.int .i64 z0] := e0
  have e1' : (cs.toList.drop 1).take 1 = [Value.int .u64 z1] := e1
  rw [Tryd.cells32] at hlen he
  rw [Tryd.cellsU8] at he
  obtain ⟨l, hl1, hl2⟩ := bytes_of (n := 32) (cs := (cs.toList.drop 2).take 32) (by rw [List.length_take, List.length_drop, hl']; rfl) fun i hi => by
    have hx := he i hi
    obtain ⟨x, hx'⟩ : ∃ x, xs[i]? = some x := ⟨_, List.getElem?_eq_getElem (by omega)⟩
    rw [hx'] at hx
    obtain ⟨z, ez, _, wz⟩ := DataW.trod_int Tryd.underlying5 hx
    obtain ⟨c, hc⟩ := byte_of wz
    have ez' : (((cs.toList.drop 2).take 32).drop (i * 1)).take 1 = [Value.int .u8 z] := ez
    rw [hc, Nat.mul_one] at ez'
    exact ⟨c, ez'⟩
  have m1 : IntKind.i64.min = -9223372036854775808 := rfl
  have m2 : IntKind.i64.max = 9223372036854775807 := rfl
  have m3 : IntKind.u64.min = 0 := rfl
  have m4 : IntKind.u64.max = 18446744073709551615 := rfl
  simp only [Lit.wf, Bool.and_eq_true, decide_eq_true_eq] at w0 w1
  refine ⟨z0, z1.toNat, l, ?_, hl2, by omega, by omega, by omega⟩
  have ec : cs.toList = markI z0 z1.toNat l := by
    have hn : ((z1.toNat : Nat) : Int) = z1 := by omega
    rw [markI, hn, ← hl1]
    generalize cs.toList = L at *
    match L, hl' with
    | a :: b :: r, hl' =>
      have ea : a = Value.int .i64 z0 := by simpa using e0'
      have eb : b = Value.int .u64 z1 := by simpa using e1'
      have er : (List.drop 2 (a :: b :: r)).take 32 = r := by
        show r.take 32 = r
        exact List.take_of_length_le (by simp at hl'; omega)
      rw [er, ea, eb]
  rw [← ec]

/-- A slice of pairs, wherever it lies below block N. -/
def PairsAt (N : Nat) (w : World) (bp : Option Addr) (l : List (Int × Int)) : Prop := l = [] ∨ ∃ b o, bp = some ⟨b, o, none⟩ ∧ b < N ∧ ∀ (j : Nat) (q : Int × Int), l[j]? = some q → w.cell? ⟨b, o + j * 2, none⟩ = some (.int .i64 q.1) ∧ w.cell? ⟨b, o + j * 2 + 1, none⟩ = some (.int .i64 q.2)
theorem PairsAt.below {N : Nat} {w w' : World} {bp : Option Addr} {l : List (Int × Int)} (h : PairsAt N w bp l) (hb : Below N w w') : PairsAt N w' bp l :=
  h.imp id (fun ⟨b, o, h1, h2, h3⟩ => ⟨b, o, h1, h2, fun j q hj => ⟨(hb.cell (p := ⟨b, o + j * 2, none⟩) h2).trans (h3 j q hj).1, (hb.cell (p := ⟨b, o + j * 2 + 1, none⟩) h2).trans (h3 j q hj).2⟩⟩)
/-- A pair of whole numbers, each in reach. -/
def InInt (q : Int × Int) : Prop := (-9223372036854775808 ≤ q.1 ∧ q.1 ≤ 9223372036854775807) ∧ -9223372036854775808 ≤ q.2 ∧ q.2 ≤ 9223372036854775807

theorem pair_of_trod {H : Type} {enc : TypeId × Value → H} {W : World} {base fuel : Nat} {spare : Nat → Bool} {held : Bool} {cs : List Value} {x : DataW H × List MemPlace} (hf : DataW.trod enc Tryd.prog W base spare held fuel 27 cs = some x) :
    ∃ q : Int × Int, cs = [.int .i64 q.1, .int .i64 q.2] ∧ InInt q := by
  obtain ⟨xs, m, _, _, hl, hxs, he⟩ := DataW.trod_array Tryd.underlying27 hf
  rw [Tryd.cellsPair] at hl
  rw [Tryd.cellsInt] at he
  match cs, hl with
  | [c0, c1], _ =>
    have g0 := he 0 (by omega)
    have g1 := he 1 (by omega)
    obtain ⟨x0, hx0⟩ : ∃ x, xs[0]? = some x := ⟨_, List.getElem?_eq_getElem (by omega)⟩
    obtain ⟨x1, hx1⟩ : ∃ x, xs[1]? = some x := ⟨_, List.getElem?_eq_getElem (by omega)⟩
    rw [hx0] at g0
    rw [hx1] at g1
    obtain ⟨z0, e0, _, w0⟩ := DataW.trod_int Tryd.underlying3 g0
    obtain ⟨z1, e1, _, w1⟩ := DataW.trod_int Tryd.underlying3 g1
    have f0 : c0 = Value.int .i64 z0 := by simpa using e0
    have f1 : c1 = Value.int .i64 z1 := by simpa using e1
    have m1 : IntKind.i64.min = -9223372036854775808 := rfl
    have m2 : IntKind.i64.max = 9223372036854775807 := rfl
    simp only [Lit.wf, Bool.and_eq_true, decide_eq_true_eq] at w0 w1
    exact ⟨(z0, z1), by rw [f0, f1], ⟨by show _ ≤ z0; omega, by show z0 ≤ _; omega⟩, by show _ ≤ z1; omega, by show z1 ≤ _; omega⟩

theorem open_pairs {H : Type} {enc : TypeId × Value → H} {W : World} {a0 : Option Addr} {len cap : Nat} {d0 : DataW H} {p : List MemPlace} (h0 : DataW.Trod enc Tryd.prog W 0 (fun _ => true) true 26 (.slice a0 len cap) d0 p) :
    ∃ l : List (Int × Int), l.length = len ∧ PairsAt W.heap.size W a0 l ∧ len ≤ 9223372036854775807 ∧ ∀ q ∈ l, InInt q := by
  obtain ⟨fuel, hf⟩ := h0
  rcases open_slice Tryd.underlying26 hf with ⟨hcs, _⟩ | ⟨a, len', cap', m, n, D, Pl, hcs, _, hl, hm, hmm, hx, hrow⟩
  · simp [Value.cells] at hcs
    obtain ⟨rfl, rfl, rfl⟩ := hcs
    exact ⟨[], rfl, .inl rfl, by omega, by simp⟩
  · simp [Value.cells] at hcs
    obtain ⟨rfl, rfl, rfl⟩ := hcs
    unfold maxLen at hm
    have hlm : len ≤ m := by rw [hmm]; split <;> omega
    rw [Tryd.cellsPair] at hrow
    have hc : ∀ i, i < len → ∃ q : Int × Int, W.cell? (a.add (i * 2)) = some (.int .i64 q.1) ∧ W.cell? (a.add (i * 2 + 1)) = some (.int .i64 q.2) ∧ InInt q := fun i hi => by
      obtain ⟨cs', h1, h2⟩ := hrow i (by omega)
      obtain ⟨q, rfl, hok⟩ := pair_of_trod h2
      obtain ⟨_, hlen, hcell⟩ := World.cells?_some h1
      have k0 := hcell 0 (by omega)
      have k1 := hcell 1 (by omega)
      rw [Deep.add_add] at k0 k1
      exact ⟨q, k0.trans rfl, k1.trans rfl, hok⟩
    classical
    refine ⟨(List.range len).map (fun i => if h : i < len then (hc i h).choose else (0, 0)), by simp, ?_, by omega, fun q hq => ?_⟩
    · rcases Nat.eq_zero_or_pos len with h | hpos
      · exact .inl (by subst h; rfl)
      right
      obtain ⟨b, off, s⟩ := a
      obtain ⟨q0, hq0, _⟩ := hc 0 hpos
      obtain rfl : s = none := by simpa [Addr.add] using World.cell?_spot hq0
      refine ⟨b, off, rfl, ?_, fun j q hj => ?_⟩
      · have := World.block_lt_of_cell? W _ hq0
        simpa [add_off] using this
      · have hjl : j < len := by simpa using (List.getElem?_eq_some_iff.1 hj).1
        have eq' : (hc j hjl).choose = q := by simpa [hjl] using hj
        obtain ⟨h1, h2, _⟩ := (hc j hjl).choose_spec
        rw [eq'] at h1 h2
        rw [add_off] at h1 h2
        exact ⟨h1, by rw [Nat.add_assoc]; exact h2⟩
    · obtain ⟨i, hi, rfl⟩ := List.mem_map.1 hq
      have hil := List.mem_range.1 hi
      rw [dif_pos hil]
      exact (hc i hil).choose_spec.2.2
/-- The zero mark, as a value and as a datum. -/
def zMarkV : Value := .agg ((.int .i64 0) :: (.int .u64 0) :: List.replicate 32 (.int .u8 0)).toArray
def zMarkD {H : Type} : DataW H := .agg [.lit (.int .i64 0), .lit (.int .u64 0), .agg (List.replicate 32 (.lit (.int .u8 0)))]
end Go.Proofs.YtegdlpllljccgaaDoor
