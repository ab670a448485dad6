/-
  Arguments opened: a table, an order, calls.
-/
import Derived.Test.YtkpogmigfjmacaaRows
import Derived.Test.YtkpogmigfjmacaaPeStands
import Derived.ProofKit
import Derived.OpenShut
import Derived.SizedLaws
import Derived.Deep.Strs
import Derived.Deep.Slices
import Derived.ChangeSame
import Derived.ChangeVars
import Derived.JoinedOf
import Derived.Carry
import Derived.Deep.DeepHandedRow
set_option linter.unusedSimpArgs false
set_option linter.unusedVariables false
namespace Go.Proofs.Ytkpogmigfjmacaa
open Go.RowKit Go.ChangeShapes Go.WideShapes Go.ChangeAt Go.Deep

theorem Try.own : ownKnob Try.prog.godebug = none := by kernel_rfl
theorem Try.laidOut : laidOutB Try.prog = true := by kernel_rfl
theorem Try.cellsReg : Try.prog.cellsOf 38 = 2 := by kernel_rfl
theorem Try.cellsTab : Try.prog.cellsOf 25 = 5 := by kernel_rfl
theorem Try.cellsOrd : Try.prog.cellsOf 28 = 5 := by kernel_rfl
theorem add_at (b off i : Nat) : (⟨b, off, none⟩ : Addr).add i = ⟨b, off + i, none⟩ := by unfold Addr.add; split <;> simp_all
def I64 (a : Int) : Prop := -9223372036854775808 ≤ a ∧ a ≤ 9223372036854775807
def U64 (a : Int) : Prop := 0 ≤ a ∧ a ≤ 18446744073709551615
def U32 (a : Int) : Prop := 0 ≤ a ∧ a ≤ 4294967295
section
variable {H : Type} {enc : TypeId × Value → H} {W : World}
set_option maxRecDepth 100000 in
theorem reg_of_trod {base fuel : Nat} {spare : Nat → Bool} {held : Bool} {cs : List Value} {x : DataW H × List MemPlace} (hf : DataW.trod enc Try.prog W base spare held fuel 38 cs = some x) :
    ∃ q : Int × Int, cs = [.int .i64 q.1, .int .u64 q.2] ∧ I64 q.1 ∧ U64 q.2 := by
  obtain ⟨xs, n, _, _, hl, hlen, hg⟩ := DataW.trod_struct Try.underlying38 hf
  rw [Try.cellsReg] at hl
  match cs, hl, xs, hlen with
  | [c0, c1], _, [y0, y1], _ =>
    have h0 := hg 0 _ rfl
    have h1 := hg 1 _ rfl
    obtain ⟨z0, e0, _, w0⟩ := DataW.trod_int Try.underlying3 h0
    obtain ⟨z1, e1, _, w1⟩ := DataW.trod_int Try.underlying26 h1
    have e0' : [c0] = [Value.int .i64 z0] := e0
    have e1' : [c1] = [Value.int .u64 z1] := e1
    exact ⟨(z0, z1), by rw [(List.cons.inj e0').1, (List.cons.inj e1').1], bounds_i64 w0, bounds_u64 w1⟩
/-- A slice of registrations that came in. -/
theorem open_regs {fuel : Nat} {spare : Nat → Bool} {held : Bool} {base : Nat} {c : Value} {x : DataW H × List MemPlace} (hf : DataW.trod enc Try.prog W base spare held fuel 23 [c] = some x) :
    ∃ (A : Option Addr) (len cap : Nat) (l : List (Int × Int)), c = .slice A len cap ∧ SlR W A len cap l ∧ len ≤ 9223372036854775807 ∧ ∀ q ∈ l, I64 q.1 ∧ U64 q.2 := by
  rcases open_slice Try.underlying23 hf with ⟨hcs, _⟩ | ⟨a, len, cap, m, n, D, Pl, hcs, _, hl, hm, hmm, hx, hrow⟩
  · have e : c = .slice none 0 0 := (List.cons.inj hcs).1
    exact ⟨none, 0, 0, [], e, ⟨rfl, Nat.le_refl _, fun _ => rfl, .inl rfl⟩, by omega, by simp⟩
  · have e : c = .slice (some a) len cap := (List.cons.inj hcs).1
    unfold maxLen at hm
    have hlm : len ≤ m := by rw [hmm]; split <;> omega
    rw [Try.cellsReg] at hrow
    have hc : ∀ i, i < len → ∃ q : Int × Int, W.cell? (a.add (i * 2)) = some (.int .i64 q.1) ∧ W.cell? (a.add (i * 2 + 1)) = some (.int .u64 q.2) ∧ I64 q.1 ∧ U64 q.2 := fun i hi => by
      obtain ⟨cs', h1, h2⟩ := hrow i (by omega)
      obtain ⟨q, rfl, hok⟩ := reg_of_trod h2
      obtain ⟨_, hlen, hcell⟩ := World.cells?_some h1
      have k0 := hcell 0 (by omega)
      have k1 := hcell 1 (by omega)
      rw [Deep.add_add] at k0 k1
      exact ⟨q, k0.trans rfl, k1.trans rfl, hok⟩
    classical
    refine ⟨some a, len, cap, (List.range len).map (fun i => if h : i < len then (hc i h).choose else (0, 0)), e, ⟨by simp, hl, by simp, ?_⟩, by omega, fun q hq => ?_⟩
    · rcases Nat.eq_zero_or_pos len with h | hpos
      · exact .inl (by subst h; rfl)
      right
      obtain ⟨b, off, s⟩ := a
      obtain ⟨q0, hq0, _⟩ := hc 0 hpos
      obtain rfl : s = none := by simpa [Addr.add] using World.cell?_spot hq0
      refine ⟨b, off, rfl, ?_, fun j q hj => ?_⟩
      · have := World.block_lt_of_cell? W _ hq0
        simpa [add_at] using this
      · have hjl : j < len := by simpa using (List.getElem?_eq_some_iff.1 hj).1
        have eq' : (hc j hjl).choose = q := by simpa [hjl] using hj
        obtain ⟨h1, h2, _⟩ := (hc j hjl).choose_spec
        rw [eq'] at h1 h2
        rw [add_at] at h1 h2
        exact ⟨h1, by rw [Nat.add_assoc]; exact h2⟩
    · obtain ⟨i, hi, rfl⟩ := List.mem_map.1 hq
      have hil := List.mem_range.1 hi
      rw [dif_pos hil]
      exact (hc i hil).choose_spec.2.2
set_option maxRecDepth 100000 in
/-- A table that came in by value. -/
theorem open_table {v : Value} {d0 : DataW H} {p : List MemPlace} (h0 : DataW.Trod enc Try.prog W 0 (fun _ => true) true 25 v d0 p) (hv : ∃ cs, v = .agg cs ∧ cs.size = Try.prog.cellsOf 25) :
    ∃ (T : Tb) (A : Option Addr) (len cap : Nat), v = .agg #[.int .u32 T.g, .slice A len cap, .int .i64 T.h, .int .i64 T.t, .bool T.p] ∧ SlR W A len cap T.l ∧ len ≤ 9223372036854775807 ∧ (∀ q ∈ T.l, I64 q.1 ∧ U64 q.2) ∧ U32 T.g ∧ I64 T.h ∧ I64 T.t := by
  obtain ⟨cs, rfl, hsz⟩ := hv
  rw [Try.cellsTab] at hsz
  obtain ⟨fuel, hf⟩ := h0
  obtain ⟨l⟩ := cs
  obtain ⟨xs, n, _, _, hl, hlen, hg⟩ := DataW.trod_struct Try.underlying25 hf
  match l, hsz, xs, hlen with
  | [c0, c1, c2, c3, c4], _, [y0, y1, y2, y3, y4], _ =>
    have h0 := hg 0 _ rfl
    have h1 := hg 1 _ rfl
    have h2 := hg 2 _ rfl
    have h3 := hg 3 _ rfl
    have h4 := hg 4 _ rfl
    obtain ⟨z0, e0, _, w0⟩ := DataW.trod_int Try.underlying22 h0
    obtain ⟨z2, e2, _, w2⟩ := DataW.trod_int Try.underlying3 h2
    obtain ⟨z3, e3, _, w3⟩ := DataW.trod_int Try.underlying3 h3
    obtain ⟨z4, e4, _⟩ := DataW.trod_bool Try.underlying4 h4
    have h1' : DataW.trod enc Try.prog W 0 (fun _ => true) true n 23 [c1] = some y1 := h1
    obtain ⟨A, len, cap, rs, ec, hS, hm, hok⟩ := open_regs h1'
    have e0' : [c0] = [Value.int .u32 z0] := e0
    have e2' : [c2] = [Value.int .i64 z2] := e2
    have e3' : [c3] = [Value.int .i64 z3] := e3
    have e4' : [c4] = [Value.bool z4] := e4
    exact ⟨⟨z0, rs, z2, z3, z4⟩, A, len, cap, by rw [(List.cons.inj e0').1, (List.cons.inj e2').1, (List.cons.inj e3').1, (List.cons.inj e4').1, ec], hS, hm, hok, bounds_u32 w0, bounds_i64 w2, bounds_i64 w3⟩
end
end Go.Proofs.Ytkpogmigfjmacaa
